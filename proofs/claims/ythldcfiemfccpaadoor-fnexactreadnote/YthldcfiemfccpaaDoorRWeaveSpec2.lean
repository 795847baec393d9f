/- The walks of chapter 5's model: Woven, Unwoven, Nearest. -/
import Derived.Test.YthldcfiemfccpaaDoorRDrawBase
import Derived.Test.YthldcfiemfccpaaDoorRBase
import Derived.Laws.ResultCell
import Derived.RegionTactic
import Derived.BigRegion
namespace Go.Proofs.YthldcfiemfccpaaDoor
open Go.RowKit
set_option linter.unusedVariables false
set_option maxRecDepth 20000

def woven (s : ByteArray) (d : Int) : ByteArray := if woveOk s d = true then str (Wv.wovenL s.data.toList d.toNat) else ⟨#[]⟩
def unwoven (s : ByteArray) (d : Int) : ByteArray := if woveOk s d = true then str (Wv.unwovenL s.data.toList d.toNat) else ⟨#[]⟩
theorem woven_no {s : ByteArray} {d : Int} (h : woveOk s d = false) : woven s d = ⟨#[]⟩ := by simp [woven, h]
theorem unwoven_no {s : ByteArray} {d : Int} (h : woveOk s d = false) : unwoven s d = ⟨#[]⟩ := by simp [unwoven, h]
theorem woven_yes {s : ByteArray} {D : Nat} (h : woveOk s (D : Int) = true) : woven s (D : Int) = str (Wv.wovenL s.data.toList D) := by simp [woven, h]
theorem unwoven_yes {s : ByteArray} {D : Nat} (h : woveOk s (D : Int) = true) : unwoven s (D : Int) = str (Wv.unwovenL s.data.toList D) := by simp [unwoven, h]
theorem index_at' {P : Program} (t : TypeId) (ht : P.underlying t = some .string) (s : ByteArray) (k : Nat) (h : k < s.size) (A : Nat) (hA : A = s[k].toNat) :
    ∀ w, (Instr.index t (.string s) (.int .i64 (k : Int))).run P w = .ok (.int .u8 (A : Int)) w := by
  intro w
  rw [run_index_string (P := P) w t s .i64 (k : Int) ht]
  simp [h, hA]
/-- The order's cells. -/
theorem order_cells {w : World} {base n d : Nat} {v : Value} (h : w.ownsRow base 2 1 v n ((Wv.order n d).map natV)) (hd : 0 < d) :
    ∃ a cap, v = .slice a n cap ∧ n ≤ cap ∧ Owned base w.heap.size w a n (fun i => .int .i64 (Wv.num n d i : Int)) := by
  obtain ⟨a, cap, rfl, hcap, hlen, _, how⟩ := owned_of_own h
  refine ⟨a, cap, rfl, hcap, how.congr (fun i hi => ?_)⟩
  have hl := Wv.order_length (n := n) hd
  unfold Wv.num
  rw [List.getD_eq_getElem?_getD, List.getD_eq_getElem?_getD, List.getElem?_map, List.getElem?_eq_getElem (by omega)]
  rfl

/-- What another row of other elements owns stays behind an append. -/
theorem own_other {w w' : World} {base e n base' e' n' : Nat} {v v' : Value} {xs xs' : List Value} (h : w.ownsRow base e 1 v n xs) (h' : w.ownsRow base' e' 1 v' n' xs') (hg : w.grownBy w' v'.ownBlock) (he : e ≠ e') : w'.ownsRow base e 1 v n xs := by
  obtain ⟨h1, h2⟩ := h
  refine ⟨h1, ?_⟩
  rcases h2 with hn | ⟨g, cap, cur, rfl, hbg, hgg, rest⟩
  · exact .inl hn
  · refine .inr ⟨g, cap, cur, rfl, hbg, (hg.block g (Array.getElem?_eq_some_iff.1 hgg).1 fun ek => ?_).trans hgg, rest⟩
    rcases h'.2 with ⟨rfl, _⟩ | ⟨g', cap', cur', rfl, _, hgg', _⟩
    · simp [Value.ownBlock] at ek
    · simp only [Value.ownBlock, Option.some.injEq] at ek
      subst ek
      rw [hgg] at hgg'
      simp only [Option.some.injEq, Obj.cells.injEq] at hgg'
      exact he hgg'.2.1
theorem below_drewN {B : Nat} {a w : World} (h : Below B a w) (k : Nat) : Below B a (w.drewN k) := ⟨h.os, h.tape, h.output, h.size, h.block⟩
theorem own_alloc {w : World} {base e n : Nat} {v : Value} {xs : List Value} (h : w.ownsRow base e 1 v n xs) (o : Obj) : (w.alloc o).ownsRow base e 1 v n xs := h.alloc o

def nearOk (s : ByteArray) (d a n : Int) : Bool := woveOk s d && (inB n 2 (s.size : Int) && inB a 0 ((s.size : Int) - n))
def nearI (s : ByteArray) (d a n : Int) : Int := if nearOk s d a n = true then (Wv.nearN s.size d.toNat a.toNat n.toNat : Int) else -1
theorem nearI_no {s : ByteArray} {d a n : Int} (h : nearOk s d a n = false) : nearI s d a n = -1 := by simp [nearI, h]
theorem nearI_yes {s : ByteArray} {D A N : Nat} (h : nearOk s (D : Int) (A : Int) (N : Int) = true) : nearI s (D : Int) (A : Int) (N : Int) = (Wv.nearN s.size D A N : Int) := by simp [nearI, h]
end Go.Proofs.YthldcfiemfccpaaDoor
