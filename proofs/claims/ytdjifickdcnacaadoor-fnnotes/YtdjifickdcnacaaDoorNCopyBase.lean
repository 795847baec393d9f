/- . -/
import Derived.Test.YtdjifickdcnacaaDoorNBase
import Derived.Laws.CopyRow
import Derived.Laws.IdiomCopy
import Derived.Lib.SliceRun
import Derived.OwnWalk
import Derived.Laws.MakeOwn
namespace Go.Proofs.YtdjifickdcnacaaDoor
open Go.RowKit
theorem wpList_append_eq {P : Program} {w : World} {ops : Array Oper} {rest : List Oper} {o : Oper} {a : Act} {Q : Exit -> Act -> World -> Prop} (hgd : o.guard = none) (s x : Operand) (t : TypeId)
  (ho : o.op = .call { callee := .builtin .append,args := #[s,x],argTypes := #[t,t] }) (v1 v2 v' : Value) (w' : World) (hs : a.eval s = v1) (hx : a.eval x = v2)
  (hrun : (Builtin.append_ #[t,t] o.type #[v1,v2]).run P w = .ok v' w') (h : wpList P ops Q rest (a.put o.dst v') w') : wpList P ops Q (o :: rest) a w := by
 refine wpList_plain hgd fun K hK => ?_
 unfold Oper.wp
 simp [execOp,ho,resolve,invoke,builtin,hs,hx,hrun,Result.andThen]
 exact hK _ _ h
theorem make_row {P : Program} (t e : TypeId) (z : Value) (bytes : Nat) (ht : P.underlying t = some (.slice e)) (hinfo : (P.info? e).map (fun i => (i.zero,i.size,i.bytes)) = some (some z,1,bytes)) (hz1 : z.cells = #[z])
  (l c : Int) (L C : Nat) (hl : l = L) (hc : c = C) (hLC : L <= C) (hb : bytes * C <= 281474976710656) (h63 : C <= 9223372036854775807) (w : World) :
  (Instr.makeSlice t (.int .i64 l) (.int .i64 c)).run P w = .ok (.slice (some ⟨w.heap.size,0,none⟩) L C) (w.alloc (.cells (madeCells #[z] C) e)) := by
 obtain ⟨i,hi,hzz⟩ := Option.map_eq_some_iff.1 hinfo
 simp only [Prod.mk.injEq] at hzz
 obtain ⟨hz,hs,hb'⟩ := hzz
 subst hl hc
 have h := run_make (P := P) w t e i z ht hi hz .i64 .i64 (L : Int) (C : Int) (by omega) (by omega) (by rw [hb',<- Int.natCast_mul]; generalize bytes * C = q at hb ⊢; omega) (by omega)
 rw [h,hs,hz1]
 simp
end Go.Proofs.YtdjifickdcnacaaDoor
