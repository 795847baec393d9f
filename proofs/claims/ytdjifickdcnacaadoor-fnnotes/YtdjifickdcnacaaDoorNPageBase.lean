/- Several texts in one: PageBase, HamAll, WalkO. -/
import Derived.Test.YtdjifickdcnacaaDoorNInfo
import Derived.Test.YtdjifickdcnacaaDoorNBytesBase
import Derived.Lib.SmallJoins
import Derived.Test.YtdjifickdcnacaaDoorNBase
import Derived.Laws.ResultCell
section
namespace Go.Proofs.YtdjifickdcnacaaDoor
open Go.RowKit Go.ChangeShapes Go.WideShapes Go.ChangeAt
set_option linter.unusedVariables false
set_option maxRecDepth 20000
theorem page_read {H : Type} {enc : TypeId × Value -> H} {P : Program} {w : World} {base : Nat} {spare : Nat -> Bool} {held : Bool} {r : Reach} {b0 : Nat} {t : TypeId} {f0 f1 f2 f3 : Field} {v : Value} {d : DataW H} {p : List MemPlace}
  (hs : P.underlying t = some (.struct #[f0,f1,f2,f3])) (hone : Go.Deep.oneCellFields P #[f0,f1,f2,f3] = true) (hC : P.cellsOf t = 4)
  (h0 : P.underlying f0.type = some (.int .i64)) (h1 : P.underlying f1.type = some (.int .i64)) (h2 : P.underlying f2.type = some (.int .i64)) (h3 : P.underlying f3.type = some .string)
  (hv : Value.okWide P w r b0 t v) (h : DataW.Trod enc P w base spare held t v d p) :
  ∃ (k a s : Int) (x : ByteArray),v = .agg #[.int .i64 k,.int .i64 a,.int .i64 s,.string x] ∧ (Lit.int .i64 k).wf = true ∧ (Lit.int .i64 a).wf = true ∧ (Lit.int .i64 s).wf = true ∧ x.size <= maxLen := by
 obtain ⟨v0,v1,v2,v3,y0,y1,y2,y3,n,rfl,_,_,t0,t1,t2,t3⟩ := Go.Joins.open_agg4 hs hone hC hv h
 obtain ⟨k,e0,_,k0⟩ := DataW.trod_int h0 t0
 obtain ⟨a,e1,_,k1⟩ := DataW.trod_int h1 t1
 obtain ⟨s,e2,_,k2⟩ := DataW.trod_int h2 t2
 obtain ⟨x,e3,_,k3⟩ := DataW.trod_string h3 t3
 simp only [List.cons.injEq,and_true] at e0 e1 e2 e3
 subst e0; subst e1; subst e2; subst e3
 exact ⟨k,a,s,x,rfl,k0,k1,k2,k3⟩
def pageOk (k a s : Int) (x : ByteArray) : Bool := inB k 1 2 && (inB a 0 63 && (inB s 1 1000000 && (decide (x.size <= 24) && (k == 1 || decide (x.size = 0)))))
end Go.Proofs.YtdjifickdcnacaaDoor
end

section
namespace Go.Proofs.YtdjifickdcnacaaDoor
open Go.RowKit
def wordB (x : Nat) : List UInt8 := [UInt8.ofNat (x / 256),UInt8.ofNat (x % 256)]
def spreadL (l : List UInt8) : List UInt8 := l.flatMap fun b => wordB (Ham.spread b.toNat)
def wordAt (s : ByteArray) (k : Nat) : Nat := 256 * (s.data.toList.getD (2 * k) 0).toNat + (s.data.toList.getD (2 * k + 1) 0).toNat
def goodTo (s : ByteArray) (k : Nat) : Prop := ∀ j,j < k -> (healedI (wordAt s j)).2 ≠ 2
instance goodToDec (s : ByteArray) (k : Nat) : Decidable (goodTo s k) := inferInstanceAs (Decidable (∀ j,j < k -> _))
end Go.Proofs.YtdjifickdcnacaaDoor
end

section
namespace Go.Proofs.YtdjifickdcnacaaDoor
open Go.RowKit
set_option linter.unusedVariables false
set_option maxRecDepth 20000
theorem and_one (n k : Nat) (h : n < 256) : wrap64 (bits .and .u8 ((n : Int) / 2 ^ (7 - k)) 1) = bitOf n k := by
 have hp : ((n : Int) / 2 ^ (7 - k)) = ((n / 2 ^ (7 - k) : Nat) : Int) := by simp
 have hlt : n / 2 ^ (7 - k) < 256 := by have := Nat.div_le_self n (2 ^ (7 - k)); omega
 have h1 : (1 : Int) = ((1 : Nat) : Int) := rfl
 rw [hp,h1,u8_and_nat _ _ hlt (by omega),Nat.and_one_is_mod]
 unfold bitOf
 generalize n / 2 ^ (7 - k) = q at *
 unfold wrap64
 omega
def bitCell (n i : Nat) : Value := .int .i64 (bitOf n i)
set_option maxHeartbeats 1600000 in
theorem octetOf_any (b : UInt8) (w : World) :
  Calls Tryd.prog 159 #[.int .u8 (b.toNat : Int)] w fun e w' => e = .returned (oct (bitOf b.toNat 0) (bitOf b.toNat 1) (bitOf b.toNat 2) (bitOf b.toNat 3) (bitOf b.toNat 4) (bitOf b.toNat 5) (bitOf b.toNat 6) (bitOf b.toNat 7)) ∧ Below w.heap.size w w' := by
 have hbl : b.toNat < 256 := UInt8.toNat_lt b
 generalize b.toNat = n at *
 have r1 := row_zero8 w 201
 have r2 := row_zero8 (w.alloc (.cells #[.int .i64 0,.int .i64 0,.int .i64 0,.int .i64 0,.int .i64 0,.int .i64 0,.int .i64 0,.int .i64 0] 201)) 201
 have R1 := hide (r1.alloc (.cells #[.int .i64 0,.int .i64 0,.int .i64 0,.int .i64 0,.int .i64 0,.int .i64 0,.int .i64 0,.int .i64 0] 201))
 have hsz0 : (w.alloc (.cells #[.int .i64 0,.int .i64 0,.int .i64 0,.int .i64 0,.int .i64 0,.int .i64 0,.int .i64 0,.int .i64 0] 201)).heap.size = w.heap.size + 1 := by simp
 rw [hsz0] at r2
 have R2 := hide r2
 clear r1 r2 hsz0
 go_enter Tryd.func159,Tryd.ntmps159
 go_wp2
 go_loopw [5] (fun i wr => ∃ k : Nat,k <= 8 ∧ i = .int .i64 k ∧ wr.rowIs (w.heap.size + 1) 201 8 (fun i => if i < k then bitCell n i else .int .i64 0) ∧ wr.rowIs w.heap.size 201 8 (cellI []) ∧ Below w.heap.size w wr) (fun i _ => 8 - (intOf i).toNat)
 case atStart => exact ⟨0,Nat.zero_le _,rfl,R2.out.congr (fun i _ => by simp [cellI]),R1.out,((Below.refl _ _).alloc (Nat.le_refl _) _).alloc (by simp) _⟩
 case round =>
  obtain ⟨k,hk,rfl,h1,h2,hbel⟩ := hrel
  clear R1 R2
  by_cases hlt : k < 8
  ·have hco := h1.cell hlt
   simp only [Nat.lt_irrefl,if_false] at hco
   have hfo := h1.frozen k
   have H1 := hide h1
   have H2 := hide h2
   have HB := hide hbel
   clear h1 h2 hbel
   go_wp2
   go_roundw
   case rel => exact ⟨k + 1,by omega,by go_num,(H1.out.set k _).congr (fun j _ => cells_step (f := bitCell n) (g := fun _ => .int .i64 0) k j (by rw [and_one n k hbl]; rfl)),H2.out.setOther (by show w.heap.size ≠ w.heap.size + 1; omega) _,HB.out.setCell (p := ⟨w.heap.size + 1,k,none⟩) (by show w.heap.size <= w.heap.size + 1; omega) _⟩
   case measure => simp [intOf]; omega
  ·have h1' := h1.congr (g := bitCell n) (fun i hi => if_pos (by omega))
   have x0 := h1'.cell (i := 0) (by omega)
   have x1 := h1'.cell (i := 1) (by omega)
   have x2 := h1'.cell (i := 2) (by omega)
   have x3 := h1'.cell (i := 3) (by omega)
   have x4 := h1'.cell (i := 4) (by omega)
   have x5 := h1'.cell (i := 5) (by omega)
   have x6 := h1'.cell (i := 6) (by omega)
   have x7 := h1'.cell (i := 7) (by omega)
   have y0 := h2.cell (i := 0) (by omega)
   have y1 := h2.cell (i := 1) (by omega)
   have y2 := h2.cell (i := 2) (by omega)
   have y3 := h2.cell (i := 3) (by omega)
   have y4 := h2.cell (i := 4) (by omega)
   have y5 := h2.cell (i := 5) (by omega)
   have y6 := h2.cell (i := 6) (by omega)
   have y7 := h2.cell (i := 7) (by omega)
   have z0 := h2.frozen
   simp only [bitCell,cellI] at x0 x1 x2 x3 x4 x5 x6 x7 y0 y1 y2 y3 y4 y5 y6 y7
   have HB := hide hbel
   clear h1 h1' h2 hbel
   go_wp2
   refine bodyPost_ret (v := oct (bitOf n 0) (bitOf n 1) (bitOf n 2) (bitOf n 3) (bitOf n 4) (bitOf n 5) (bitOf n 6) (bitOf n 7)) (by simp [results,Tryd.results159,go_sem,oct,y0,y1,y2,y3,y4,y5,y6,y7]) rfl ⟨rfl,?_⟩
   exact ((((((((HB.out.setCell (p := ⟨w.heap.size,0,none⟩) (Nat.le_refl _) _).setCell (p := ⟨w.heap.size,1,none⟩) (Nat.le_refl _) _).setCell (p := ⟨w.heap.size,2,none⟩) (Nat.le_refl _) _).setCell (p := ⟨w.heap.size,3,none⟩) (Nat.le_refl _) _).setCell (p := ⟨w.heap.size,4,none⟩) (Nat.le_refl _) _).setCell (p := ⟨w.heap.size,5,none⟩) (Nat.le_refl _) _).setCell (p := ⟨w.heap.size,6,none⟩) (Nat.le_refl _) _).setCell (p := ⟨w.heap.size,7,none⟩) (Nat.le_refl _) _)
end Go.Proofs.YtdjifickdcnacaaDoor
end

