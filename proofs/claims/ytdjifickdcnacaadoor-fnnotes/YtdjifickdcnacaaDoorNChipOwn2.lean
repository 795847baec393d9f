/- Several texts in one: ChipOwn2, ChipOwn3, NoteMath, ChipMark, ChipJob, ChipJob2, ChipHeld, JobMark, ChipJobSz, LogPut, PutOwn, ChipOkS, SpareSpec2. -/
import Derived.Test.YtdjifickdcnacaaDoorNTextWalk
import Derived.Test.YtdjifickdcnacaaDoorNCopyBase
import Derived.Test.YtdjifickdcnacaaDoorNLogMath
import Derived.Maps.AppendAt
import Derived.OwnWalk
import Derived.Test.YtdjifickdcnacaaDoorNInfo
section
namespace Go.Proofs.YtdjifickdcnacaaDoor
open Go.RowKit
set_option linter.unusedVariables false
set_option maxRecDepth 20000
end Go.Proofs.YtdjifickdcnacaaDoor
end

section
namespace Go.Proofs.YtdjifickdcnacaaDoor
open Go.RowKit
set_option linter.unusedVariables false
set_option maxRecDepth 20000
theorem OwnSqs.aside {lo hi n g off l r : Nat} {w w' : World} {a : Option Addr} {qs : List Sq} {A : Nat -> Option Addr} {C P : Nat -> Nat} (h : OwnSqs lo hi w a n qs g off A C P) (hb : Aside l r w w') (hr : r <= lo ∨ hi <= l) : OwnSqs lo hi w' a n qs g off A C P :=
 ⟨h.len,h.row.aside hb (by have := h.atG; omega),h.addr,fun i hi => (h.pages i hi).aside hb (by have := h.atP i hi; omega),h.room,h.atG,h.atP,h.apartG,h.apartP,Nat.le_trans h.top hb.size⟩
theorem OwnSqs.wide {lo hi lo' hi' n g off : Nat} {w : World} {a : Option Addr} {qs : List Sq} {A : Nat -> Option Addr} {C P : Nat -> Nat} (h : OwnSqs lo hi w a n qs g off A C P) (h1 : lo' <= lo) (h2 : hi <= hi') (h3 : hi' <= w.heap.size) : OwnSqs lo' hi' w a n qs g off A C P :=
 ⟨h.len,h.row,h.addr,h.pages,h.room,by have := h.atG; omega,fun i hi => by have := h.atP i hi; omega,h.apartG,h.apartP,h3⟩
theorem OwnSquares.aside {lo hi n l r : Nat} {w w' : World} {a : Option Addr} {qs : List Sq} (h : OwnSquares lo hi w a n qs) (hb : Aside l r w w') (hr : r <= lo ∨ hi <= l) : OwnSquares lo hi w' a n qs := by
 obtain ⟨g,off,A,C,P,h⟩ := h
 exact ⟨g,off,A,C,P,h.aside hb hr⟩
theorem OwnSquares.wide {lo hi lo' hi' n : Nat} {w : World} {a : Option Addr} {qs : List Sq} (h : OwnSquares lo hi w a n qs) (h1 : lo' <= lo) (h2 : hi <= hi') (h3 : hi' <= w.heap.size) : OwnSquares lo' hi' w a n qs := by
 obtain ⟨g,off,A,C,P,h⟩ := h
 exact ⟨g,off,A,C,P,h.wide h1 h2 h3⟩
end Go.Proofs.YtdjifickdcnacaaDoor
end

section
namespace Go.Proofs.YtdjifickdcnacaaDoor
open Go.RowKit
set_option linter.unusedVariables false
structure Nt where
 k : Int
 tt : Int
 e : Int
 s : Int
 a : Int
 tx : ByteArray
 vs : List ByteArray
def ntNum (x : Nt) : Bool := inB x.k 1 3 && (inB x.tt 0 1 && (inB x.e 0 1000000 && (inB x.s 0 1000000 && (inB x.a 0 63 && (decide (x.tx.size <= 24) && valuesOk x.vs)))))
def ntKind (x : Nt) : Bool := (decide (x.k = 1) || (decide (x.a = 0) && decide (x.tx = ByteArray.empty))) && (decide (x.k = 2) || decide (x.vs.length = 0))
def noteOk (x : Nt) : Bool := ntNum x && ntKind x
def noteV (x : Nt) (a : Option Addr) (n c : Nat) : Value := .agg #[.int .i64 x.k,.int .i64 x.tt,.int .i64 x.e,.int .i64 x.s,.int .i64 x.a,.string x.tx,.slice a n c]
theorem note_cells {W : World} {b : Nat} {c0 c1 c2 c3 c4 c5 c6 : Value} {t : TypeId} {fr : Nat × Nat} (h : W.heap[b]? = some (.cells #[c0,c1,c2,c3,c4,c5,c6] t fr)) :
  W.cell? ⟨b,0,none⟩ = some c0 ∧ W.cell? ⟨b,1,none⟩ = some c1 ∧ W.cell? ⟨b,2,none⟩ = some c2 ∧ W.cell? ⟨b,3,none⟩ = some c3 ∧ W.cell? ⟨b,4,none⟩ = some c4 ∧ W.cell? ⟨b,5,none⟩ = some c5 ∧ W.cell? ⟨b,6,none⟩ = some c6 := by
 simp [World.cell?,h]
theorem note_set {W : World} {b : Nat} {c0 c1 c2 c3 c4 c5 c6 : Value} {t : TypeId} {fr : Nat × Nat} (h : W.heap[b]? = some (.cells #[c0,c1,c2,c3,c4,c5,c6] t fr)) (v0 v1 v2 v3 v4 v5 v6 : Value) :
  (((((((W.setCell ⟨b,0,none⟩ v0).setCell ⟨b,1,none⟩ v1).setCell ⟨b,2,none⟩ v2).setCell ⟨b,3,none⟩ v3).setCell ⟨b,4,none⟩ v4).setCell ⟨b,5,none⟩ v5).setCell ⟨b,6,none⟩ v6).heap[b]? = some (.cells #[v0,v1,v2,v3,v4,v5,v6] t fr) :=
 set_block (set_block (set_block (set_block (set_block (set_block (set_block h 0 v0 (by simp)) 1 v1 (by simp)) 2 v2 (by simp)) 3 v3 (by simp)) 4 v4 (by simp)) 5 v5 (by simp)) 6 v6 (by simp)
theorem note_aside {lo hi b : Nat} {a w : World} (h : Aside lo hi a w) (h1 : lo <= b) (h2 : b < hi) (v0 v1 v2 v3 v4 v5 v6 : Value) :
  Aside lo hi a (((((((w.setCell ⟨b,0,none⟩ v0).setCell ⟨b,1,none⟩ v1).setCell ⟨b,2,none⟩ v2).setCell ⟨b,3,none⟩ v3).setCell ⟨b,4,none⟩ v4).setCell ⟨b,5,none⟩ v5).setCell ⟨b,6,none⟩ v6) :=
 ((((((h.setCell (p := ⟨b,0,none⟩) h1 h2 v0).setCell (p := ⟨b,1,none⟩) h1 h2 v1).setCell (p := ⟨b,2,none⟩) h1 h2 v2).setCell (p := ⟨b,3,none⟩) h1 h2 v3).setCell (p := ⟨b,4,none⟩) h1 h2 v4).setCell (p := ⟨b,5,none⟩) h1 h2 v5).setCell (p := ⟨b,6,none⟩) h1 h2 v6
end Go.Proofs.YtdjifickdcnacaaDoor
end

section
namespace Go.Proofs.YtdjifickdcnacaaDoor
open Go.RowKit
set_option linter.unusedVariables false
set_option maxRecDepth 20000
theorem Owned.place {lo hi n i : Nat} {w : World} {b off : Nat} {f : Nat -> Value} (h : Owned lo hi w (some ⟨b,off,none⟩) n f) (hi' : i < n) : w.cell? ⟨b,off + i,none⟩ = some (f i) ∧ w.frozen? ⟨b,off + i,none⟩ = false ∧ lo <= b ∧ b < hi := by
 obtain ⟨b',off',e,h1,h2,h3⟩ := h.2 (by omega)
 simp at e
 obtain ⟨rfl,rfl⟩ := e
 exact ⟨(h3 i hi').1,(h3 i hi').2,h1,h2⟩
end Go.Proofs.YtdjifickdcnacaaDoor
end

section
namespace Go.Proofs.YtdjifickdcnacaaDoor
open Go.RowKit
set_option linter.unusedVariables false
set_option maxRecDepth 20000
end Go.Proofs.YtdjifickdcnacaaDoor
end

section
namespace Go.Proofs.YtdjifickdcnacaaDoor
open Go.RowKit
set_option linter.unusedVariables false
set_option maxRecDepth 20000
end Go.Proofs.YtdjifickdcnacaaDoor
end

section
namespace Go.Proofs.YtdjifickdcnacaaDoor
open Go.RowKit
set_option linter.unusedVariables false
set_option maxRecDepth 20000
end Go.Proofs.YtdjifickdcnacaaDoor
end

section
namespace Go.Proofs.YtdjifickdcnacaaDoor
open Go.RowKit
set_option linter.unusedVariables false
set_option maxRecDepth 20000
end Go.Proofs.YtdjifickdcnacaaDoor
end

section
namespace Go.Proofs.YtdjifickdcnacaaDoor
open Go.RowKit
set_option linter.unusedVariables false
set_option maxRecDepth 20000
end Go.Proofs.YtdjifickdcnacaaDoor
end

section
namespace Go.Proofs.YtdjifickdcnacaaDoor
open Go.RowKit
set_option linter.unusedVariables false
set_option maxRecDepth 20000
end Go.Proofs.YtdjifickdcnacaaDoor
end

section
namespace Go.Proofs.YtdjifickdcnacaaDoor
open Go.RowKit
set_option linter.unusedVariables false
set_option linter.unusedSimpArgs false
set_option maxRecDepth 20000
end Go.Proofs.YtdjifickdcnacaaDoor
end

section
namespace Go.Proofs.YtdjifickdcnacaaDoor
open Go.RowKit
set_option linter.unusedVariables false
set_option maxRecDepth 20000
end Go.Proofs.YtdjifickdcnacaaDoor
end

section
namespace Go.Proofs.YtdjifickdcnacaaDoor
open Go.RowKit
set_option linter.unusedVariables false
set_option linter.unusedSimpArgs false
set_option maxRecDepth 20000
end Go.Proofs.YtdjifickdcnacaaDoor
end

