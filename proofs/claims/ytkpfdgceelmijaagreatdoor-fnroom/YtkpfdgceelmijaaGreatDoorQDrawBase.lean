/- Several texts in one: DrawBase, DrawText. -/
import Derived.Test.YtkpfdgceelmijaaGreatDoorRows
import Derived.Test.YtkpfdgceelmijaaGreatDoorQBytesBase
import Derived.Test.YtkpfdgceelmijaaGreatDoorQCopyBase
import Derived.Deep.QuietTactic
import Derived.BigQuiet
import Derived.Maps.AppendAt
section
namespace Go.Proofs.YtkpfdgceelmijaaGreatDoor
open Go.RowKit
set_option linter.unusedVariables false
set_option maxRecDepth 20000

theorem Bytes.later {lo hi : Nat} {w w' : World} {a : Option Addr} {n : Nat} {l : List UInt8} (h : Bytes lo hi w a n l) {B : Nat} (hb : Below B w w') (hB : hi ≤ B) : Bytes lo hi w' a n l := ⟨h.1, h.2.later hb hB⟩
theorem Bytes.aside {lo hi : Nat} {w w' : World} {a : Option Addr} {n : Nat} {l : List UInt8} (h : Bytes lo hi w a n l) {x r : Nat} (hb : Aside x r w w') (hB : hi ≤ x ∨ r ≤ lo) : Bytes lo hi w' a n l := ⟨h.1, h.2.aside hb hB⟩

def cur3 (a : Option Addr) (n cap i : Nat) (h : Int) (j : Nat) : Value := if j = 0 then .slice a n cap else if j = 1 then .int .i64 (i : Nat) else .int .i64 h
theorem Aside.drewN {lo hi : Nat} {a w : World} (h : Aside lo hi a w) (k : Nat) : Aside lo hi a (w.drewN k) := h.trans ⟨rfl, rfl, rfl, Nat.le_refl _, fun _ _ _ => rfl⟩

theorem Aside.grown {lo hi : Nat} {a w w' : World} {row : Option Nat} (h : Aside lo hi a w) (hg : w.grownBy w' row) (hr : ∀ k, row = some k → a.heap.size ≤ k) : Aside lo hi a w' :=
  ⟨hg.os.trans h.os, hg.tape.trans h.tape, hg.output.trans h.output, Nat.le_trans h.size hg.size, fun k hk hk' => by
    refine (hg.block k (Nat.lt_of_lt_of_le hk h.size) (fun e => ?_)).trans (h.block k hk hk')
    have := hr k e.symm
    omega⟩
theorem Aside.alloc {lo hi : Nat} {a w : World} (h : Aside lo hi a w) (o : Obj) : Aside lo hi a (w.alloc o) :=
  h.trans ⟨rfl, rfl, rfl, by show _ ≤ (w.heap.push o).size; simp, fun k hk _ => Go.Deep.blk_alloc_lt _ _ _ hk⟩
theorem own_aside {w w' : World} {base e n : Nat} {v : Value} {xs : List Value} (h : w.ownsRow base e 1 v n xs) {l r : Nat} (hb : Aside l r w w') (hr : r ≤ base) : w'.ownsRow base e 1 v n xs := by
  obtain ⟨h1, h2⟩ := h
  refine ⟨h1, ?_⟩
  rcases h2 with hn | ⟨g, cap, cur, rfl, hbg, hgg, rest⟩
  · exact .inl hn
  · exact .inr ⟨g, cap, cur, rfl, hbg, (hb.block g (Array.getElem?_eq_some_iff.1 hgg).1 (.inr (by omega))).trans hgg, rest⟩
theorem Owned.wide {lo hi : Nat} {w : World} {a : Option Addr} {n : Nat} {f : Nat → Value} (h : Owned lo hi w a n f) {hi' : Nat} (h1 : hi ≤ hi') (h2 : hi' ≤ w.heap.size) : Owned lo hi' w a n f :=
  ⟨h2, fun hn => by
    obtain ⟨b, off, e, q1, q2, q3⟩ := h.2 hn
    exact ⟨b, off, e, q1, Nat.lt_of_lt_of_le q2 h1, q3⟩⟩
theorem Owned.first {lo hi : Nat} {w : World} {a : Option Addr} {n : Nat} {f : Nat → Value} (h : Owned lo hi w a n f) {m : Nat} (hm : m ≤ n) : Owned lo hi w a m f :=
  ⟨h.1, fun hn => by
    obtain ⟨b, off, e, q1, q2, q3⟩ := h.2 (by omega)
    exact ⟨b, off, e, q1, q2, fun i hi => q3 i (by omega)⟩⟩
theorem aside_of_below {w w' : World} {lo hi : Nat} (h : Below w.heap.size w w') : Aside lo hi w w' := ⟨h.os, h.tape, h.output, h.size, fun k hk _ => h.block k hk⟩
end Go.Proofs.YtkpfdgceelmijaaGreatDoor
end

section
namespace Go.Proofs.YtkpfdgceelmijaaGreatDoor
open Go.RowKit
set_option linter.unusedVariables false
set_option maxRecDepth 20000

theorem Tryz.infoU8d : (Tryz.prog.info? 5).map (fun i => (i.zero, i.size, i.bytes)) = some (some (.int .u8 0), 1, 1) := by kernel_rfl
def byteV (b : UInt8) : Value := .int .u8 (b.toNat : Int)
theorem byteV_one (b : UInt8) : ∀ u ∈ [byteV b], u.oneCell' = true := by intro u hu; simp at hu; subst hu; rfl

theorem ownBytes_of {w : World} {base e n : Nat} {v : Value} {l : List UInt8} (h : w.ownsRow base e 1 v n (l.map byteV)) {lo : Nat} (hlo : lo ≤ base) :
    ∃ a cap, v = .slice a n cap ∧ n ≤ cap ∧ OwnBytes lo w.heap.size w a n l := by
  obtain ⟨a, cap, rfl, hcap, hlen, _, how⟩ := owned_of_own h
  rw [List.length_map] at hlen
  refine ⟨a, cap, rfl, hcap, hlen, how.1, fun hn => ?_⟩
  obtain ⟨b, off, e, h1, h2, h3⟩ := how.2 hn
  refine ⟨b, off, e, Nat.le_trans hlo h1, h2, fun i hi => ?_⟩
  obtain ⟨h4, h5⟩ := h3 i hi
  refine ⟨h4.trans ?_, h5⟩
  show some ((l.map byteV).getD i (.int .i64 0)) = some (cellB l i)
  rw [List.getD_eq_getElem?_getD]
  simp [show i < l.length by omega, byteV, cellB, List.getD_eq_getElem?_getD]
end Go.Proofs.YtkpfdgceelmijaaGreatDoor
end

