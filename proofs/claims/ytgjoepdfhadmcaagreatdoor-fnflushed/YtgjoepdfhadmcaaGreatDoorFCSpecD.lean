/- Several texts in one: CSpecD, CSpecE, CSpecF, CSpecG, HeldOwn, CacheBackS, HeldImpl, HeldImpl2, CacheFrontS, CacheFlushM, CacheItem, CacheTold, LawBox, CacheLaw. -/
import Derived.Test.YtgjoepdfhadmcaaGreatDoorFFtlSpecD
import Derived.Test.YtgjoepdfhadmcaaGreatDoorFFtlOwnP
import Derived.Test.YtgjoepdfhadmcaaGreatDoorFChipCutS
import Derived.Test.YtgjoepdfhadmcaaGreatDoorFFtlMath
import Derived.Deep.RegionHeld3
import Derived.Test.YtgjoepdfhadmcaaGreatDoorFCopyBase
import Derived.Test.YtgjoepdfhadmcaaGreatDoorFBase
import Derived.Lib.AppendZeros
import Derived.Lib.AppendZerosOnto
import Derived.Laws.AppendOwn
import Derived.Test.YtgjoepdfhadmcaaGreatDoorFCloneW
import Derived.Deep.RegionWith
import Derived.Test.YtgjoepdfhadmcaaGreatDoorFChipGrow
import Derived.Deep.RegionLaw
import Derived.Test.YtgjoepdfhadmcaaGreatDoorFPageMath
import Derived.Test.YtgjoepdfhadmcaaGreatDoorFChipAns
section
namespace Go.Proofs.YtgjoepdfhadmcaaGreatDoor
open Go.RowKit
set_option linter.unusedVariables false
set_option maxRecDepth 20000
structure FtlAt2 (B : Nat) (w : World) (px pj : Nat) (rm : Int) (iv : Value) (z st : Int) (n g c gm cm : Nat) (A : Nat -> Option Addr) (C : Nat -> Nat) (V : Value) (s : Kp) : Prop where
 mem : KpMem B w n g gm cm A C V s
 ftl : w.heap[px]? = some (.cells #[.int .i64 rm,iv,.int .i64 z,.slice (some ⟨g,0,none⟩) n c,.slice (some ⟨gm,0,none⟩) s.ps.length cm,.int .i64 s.op,.int .i64 st] 65)
 jobs : w.heap[pj]? = some (.cells #[V] 91)
 nx : px ≠ g
 nj : pj ≠ g
 bx : B <= px
 bj : B <= pj
theorem FtlAt2.later {B px pj n g c gm cm : Nat} {w w' : World} {rm : Int} {iv : Value} {z st : Int} {A : Nat -> Option Addr} {C : Nat -> Nat} {V : Value} {s : Kp} (h : FtlAt2 B w px pj rm iv z st n g c gm cm A C V s) (hb : Below w.heap.size w w') : FtlAt2 B w' px pj rm iv z st n g c gm cm A C V s :=
 ⟨h.mem.later hb,block_on h.ftl hb,block_on h.jobs hb,h.nx,h.nj,h.bx,h.bj⟩
end Go.Proofs.YtgjoepdfhadmcaaGreatDoor
end

section
namespace Go.Proofs.YtgjoepdfhadmcaaGreatDoor
open Go.RowKit
set_option linter.unusedVariables false
set_option maxRecDepth 20000
theorem FtlAt2.apart {B px pj n g c gm cm : Nat} {w : World} {rm : Int} {iv : Value} {z st : Int} {A : Nat -> Option Addr} {C : Nat -> Nat} {V : Value} {s : Kp} (h : FtlAt2 B w px pj rm iv z st n g c gm cm A C V s) : gm ≠ px ∧ gm ≠ pj ∧ px ≠ pj := by
 obtain ⟨cs,fz,hk⟩ := h.mem.kind
 refine ⟨fun e => ?_,fun e => ?_,fun e => ?_⟩
 ·rw [e,h.ftl] at hk
  simp only [Option.some.injEq,Obj.cells.injEq] at hk
  exact absurd hk.2.1 (by decide)
 ·rw [e,h.jobs] at hk
  simp only [Option.some.injEq,Obj.cells.injEq] at hk
  exact absurd hk.2.1 (by decide)
 ·have := h.ftl
  rw [e,h.jobs] at this
  simp only [Option.some.injEq,Obj.cells.injEq] at this
  exact absurd this.2.1 (by decide)
theorem FtlAt2.led {B px pj n g c gm cm : Nat} {w : World} {rm : Int} {iv : Value} {z st : Int} {A : Nat -> Option Addr} {C : Nat -> Nat} {V : Value} {s : Kp} (h : FtlAt2 B w px pj rm iv z st n g c gm cm A C V s) {i : Nat} (hi : i < s.ps.length) (x : Pl) :
  FtlAt2 B ((w.setCell ⟨gm,i * 2,none⟩ (.int .i64 x.1)).setCell ⟨gm,i * 2 + 1,none⟩ (.int .i64 x.2)) px pj rm iv z st n g c gm cm A C V ⟨s.qs,s.ps.set i x,s.op,s.js⟩ := by
 obtain ⟨h1,h2,h3⟩ := h.apart
 refine ⟨h.mem.led hi x,?_,set_other (set_other h.jobs h2 _) h2 _,h.nx,h.nj,h.bx,h.bj⟩
 dsimp only
 rw [List.length_set]
 exact set_other (set_other h.ftl h1 _) h1 _
theorem FtlAt2.bound {B px pj n g c gm cm : Nat} {w : World} {rm : Int} {iv : Value} {z st : Int} {A : Nat -> Option Addr} {C : Nat -> Nat} {V : Value} {s : Kp} (h : FtlAt2 B w px pj rm iv z st n g c gm cm A C V s) : px < w.heap.size ∧ pj < w.heap.size ∧ g < w.heap.size ∧ gm < w.heap.size ∧ B <= gm ∧ B <= g := by
 obtain ⟨cs,fz,hk⟩ := h.mem.kind
 exact ⟨(Array.getElem?_eq_some_iff.1 h.ftl).1,(Array.getElem?_eq_some_iff.1 h.jobs).1,by have := h.mem.sq.row.1; omega,(Array.getElem?_eq_some_iff.1 hk).1,(World.ownsRow.lt h.mem.pl gm rfl).1,h.mem.sq.atG⟩
end Go.Proofs.YtgjoepdfhadmcaaGreatDoor
end

section
namespace Go.Proofs.YtgjoepdfhadmcaaGreatDoor
open Go.RowKit
set_option linter.unusedVariables false
set_option maxRecDepth 20000
theorem FtlAt2.opened {B px pj n g c gm cm : Nat} {w : World} {rm : Int} {iv : Value} {z st : Int} {A : Nat -> Option Addr} {C : Nat -> Nat} {V : Value} {s : Kp} (h : FtlAt2 B w px pj rm iv z st n g c gm cm A C V s) (o : Int) :
  FtlAt2 B (w.setCell ⟨px,5,none⟩ (.int .i64 o)) px pj rm iv z st n g c gm cm A C V (withOp s o) := by
 obtain ⟨h1,h2,h3⟩ := h.apart
 have hm := h.mem.set (o := 5) (.int .i64 o) h.nx h.ftl (by decide) (by decide) (by decide)
 exact ⟨⟨hm.sq,hm.pl,hm.jb,hm.ne,hm.nj⟩,set_block h.ftl 5 _ (by simp),set_other h.jobs h3 _,h.nx,h.nj,h.bx,h.bj⟩
end Go.Proofs.YtgjoepdfhadmcaaGreatDoor
end

section
namespace Go.Proofs.YtgjoepdfhadmcaaGreatDoor
open Go.RowKit
set_option linter.unusedVariables false
set_option maxRecDepth 20000
theorem FtlAt2.stamped {B px pj n g c gm cm : Nat} {w : World} {rm : Int} {iv : Value} {z st : Int} {A : Nat -> Option Addr} {C : Nat -> Nat} {V : Value} {s : Kp} (h : FtlAt2 B w px pj rm iv z st n g c gm cm A C V s) (o : Int) :
  FtlAt2 B (w.setCell ⟨px,6,none⟩ (.int .i64 o)) px pj rm iv z o n g c gm cm A C V s := by
 obtain ⟨h1,h2,h3⟩ := h.apart
 have hm := h.mem.set (o := 6) (.int .i64 o) h.nx h.ftl (by decide) (by decide) (by decide)
 exact ⟨⟨hm.sq,hm.pl,hm.jb,hm.ne,hm.nj⟩,set_block h.ftl 6 _ (by simp),set_other h.jobs h3 _,h.nx,h.nj,h.bx,h.bj⟩
end Go.Proofs.YtgjoepdfhadmcaaGreatDoor
end

section
namespace Go.Proofs.YtgjoepdfhadmcaaGreatDoor
open Go.RowKit
set_option linter.unusedVariables false
set_option linter.unusedSimpArgs false
set_option maxRecDepth 20000
def hdV (x : Hd) : List Value := [.int .i64 x.1,.string x.2.1,.bool x.2.2]
def hdL (ys : List Hd) : List Value := ys.flatMap hdV
theorem hdL_append (xs ys : List Hd) : hdL (xs ++ ys) = hdL xs ++ hdL ys := List.flatMap_append
theorem hdL_length (ys : List Hd) : (hdL ys).length = ys.length * 3 := by
 induction ys with
 | nil => rfl
 | cons y ys ih => show (hdV y ++ hdL ys).length = _; rw [List.length_append,ih]; simp [hdV]; omega
theorem hdL_at (ys : List Hd) {j : Nat} (h : j < ys.length * 3) : (hdL ys)[j]? = some (cellH ys j) := by
 induction ys generalizing j with
 | nil => simp at h
 | cons y ys ih =>
  have e : hdL (y :: ys) = hdV y ++ hdL ys := rfl
  rw [e]
  by_cases h3 : j < 3
  ·rw [List.getElem?_append_left (by simp [hdV]; omega)]
   have : j = 0 ∨ j = 1 ∨ j = 2 := by omega
   rcases this with rfl | rfl | rfl <;> rfl
  ·rw [List.getElem?_append_right (by simp [hdV]; omega)]
   have hl : (hdV y).length = 3 := rfl
   simp only [List.length_cons] at h
   rw [hl,ih (by omega)]
   congr 1
   unfold cellH
   rw [show (j - 3) % 3 = j % 3 by omega]
   have hq : hdAt ys ((j - 3) / 3) = hdAt (y :: ys) (j / 3) := by
    unfold hdAt
    rw [show j / 3 = (j - 3) / 3 + 1 by omega]
    rfl
   rw [hq]
theorem hdL_one (ys : List Hd) : ∀ u ∈ hdL ys,u.oneCell' = true := by
 intro u hu
 obtain ⟨y,_,hy⟩ := List.mem_flatMap.1 hu
 simp only [hdV,List.mem_cons,List.not_mem_nil,or_false] at hy
 rcases hy with rfl | rfl | rfl <;> rfl
theorem hdV_one (x : Hd) : ∀ u ∈ hdV x,u.oneCell' = true := by
 intro u hu
 simp only [hdV,List.mem_cons,List.not_mem_nil,or_false] at hu
 rcases hu with rfl | rfl | rfl <;> rfl
abbrev HdOwn (B : Nat) (w : World) (v : Value) (ys : List Hd) : Prop := w.ownsRow B 83 3 v ys.length (hdL ys)
theorem hd_made0 (w : World) : HdOwn w.heap.size (w.alloc (.cells #[] 83)) (.slice (some ⟨w.heap.size,0,none⟩) 0 0) [] := by
 have hb : (w.alloc (.cells #[] 83)).heap[w.heap.size]? = some (.cells #[] 83 (0,0)) := heap_new _ _
 exact ⟨rfl,.inr ⟨w.heap.size,0,#[],rfl,Nat.le_refl _,hb,Nat.le_refl _,Nat.zero_le _,rfl,rfl⟩⟩
theorem hd_nil (B : Nat) (w : World) : HdOwn B w (.slice none 0 0) [] := ⟨rfl,.inl ⟨rfl,rfl⟩⟩
theorem hd_form {B : Nat} {w : World} {v : Value} {ys : List Hd} (h : HdOwn B w v ys) : ∃ a c,v = .slice a ys.length c ∧ ys.length <= c := by
 rcases h.2 with ⟨e,h0⟩ | ⟨g,cap,cur,e,_,_,hn,_⟩
 ·exact ⟨none,0,by rw [e,h0],by omega⟩
 ·exact ⟨_,cap,e,hn⟩
theorem hd_own {B : Nat} {w : World} {a : Option Addr} {n c : Nat} {ys : List Hd} (h : HdOwn B w (.slice a n c) ys) : OwnHelds B w.heap.size w a ys.length ys := by
 refine ⟨rfl,Nat.le_refl _,fun h0 => ?_⟩
 rcases h.2 with ⟨_,h1⟩ | ⟨g,cap,cur,e,hg,hgg,_⟩
 ·omega
 ·simp only [Value.slice.injEq] at e
  obtain ⟨rfl,rfl,rfl⟩ := e
  refine ⟨g,0,rfl,hg,(Array.getElem?_eq_some_iff.1 hgg).1,fun i hi => ⟨?_,by rw [Nat.zero_add]; exact h.frozenAt i⟩⟩
  rw [Nat.zero_add,h.cellAt i (by omega),hdL_at ys (by omega)]
theorem hd_some {B : Nat} {w : World} {v : Value} {ys : List Hd} (h : HdOwn B w v ys) (h1 : 1 <= ys.length) : ∃ g c,v = .slice (some ⟨g,0,none⟩) ys.length c ∧ ys.length <= c ∧ B <= g ∧ g < w.heap.size := by
 rcases h.2 with ⟨e,h0⟩ | ⟨g,cap,cur,e,hb,hgg,hn,_⟩
 ·omega
 ·exact ⟨g,cap,e,hn,hb,(Array.getElem?_eq_some_iff.1 hgg).1⟩
theorem hd_read {lo hi n k : Nat} {w : World} {a : Option Addr} {ys : List Hd} (h : Helds lo hi w a n ys) (hk : k < n) : ∃ b off,a = some ⟨b,off,none⟩ ∧ lo <= b ∧ b < hi ∧ w.cell? ⟨b,off + k * 3,none⟩ = some (.int .i64 (hdAt ys k).1) ∧ w.cell? ⟨b,off + k * 3 + 1,none⟩ = some (.string (hdAt ys k).2.1) ∧ w.cell? ⟨b,off + k * 3 + 2,none⟩ = some (.bool (hdAt ys k).2.2) := by
 obtain ⟨b,off,e,h1,h2,h3⟩ := h.2.2 (by omega)
 refine ⟨b,off,e,h1,h2,?_,?_,?_⟩
 ·rw [show off + k * 3 = off + 3 * k by omega,h3 _ (by omega),cellH0]
 ·rw [show off + k * 3 + 1 = off + (3 * k + 1) by omega,h3 _ (by omega),cellH1]
 ·rw [show off + k * 3 + 2 = off + (3 * k + 2) by omega,h3 _ (by omega),cellH2]
theorem Tryz.infoHeld : (Tryz.prog.info? 83).map (fun i => (i.zero,i.size,i.bytes)) = some (some (.agg #[.int .i64 0,.string ByteArray.empty,.bool false]),3,32) := by kernel_rfl
theorem append_helds {P : Program} (hinfo : (P.info? 83).map (fun i => (i.zero,i.size,i.bytes)) = some (some (.agg #[.int .i64 0,.string ByteArray.empty,.bool false]),3,32)) {t : TypeId} (ht : P.underlying t = some (.slice 83)) {B : Nat} {w : World} {a0 : Option Addr} {n0 c0 : Nat} {ys : List Hd} (ho : HdOwn B w (.slice a0 n0 c0) ys) (hB : B <= w.heap.size)
  {lo hi : Nat} {a : Option Addr} {n c : Nat} {xs : List Hd} (hx : Helds lo hi w a n xs) (hn : n0 + n <= 1048576) :
  ∃ a' c' w',(Builtin.append_ #[t,t] t #[.slice a0 n0 c0,.slice a n c]).run P w = .ok (.slice a' (n0 + n) c') w' ∧ HdOwn B w' (.slice a' (n0 + n) c') (ys ++ xs) ∧ w.grownBy w' (Value.slice a0 n0 c0).ownBlock ∧ ((Value.slice a' (n0 + n) c').ownBlock = (Value.slice a0 n0 c0).ownBlock ∨ (Value.slice a' (n0 + n) c').ownBlock = some w.heap.size) := by
 obtain ⟨i0,hi0,hz0,hz1,hz2⟩ := info_parts hinfo
 obtain ⟨hl,_,hx⟩ := hx
 subst hl
 have hn0 : n0 = ys.length := by
  obtain ⟨a1,c1,e,_⟩ := hd_form ho
  simp only [Value.slice.injEq] at e
  exact e.2.1
 by_cases h0 : xs.length = 0
 ·have hts : xs = [] := List.eq_nil_of_length_eq_zero h0
  subst hts
  refine ⟨a0,c0,w,?_,by rw [List.append_nil]; exact ho,⟨rfl,rfl,rfl,Nat.le_refl _,fun _ _ _ => rfl⟩,.inl rfl⟩
  obtain ⟨a1,c1,e,hc1⟩ := hd_form ho
  simp only [Value.slice.injEq] at e
  obtain ⟨rfl,_,rfl⟩ := e
  cases a0 with
  | none =>
   rcases ho.2 with ⟨e,h1⟩ | ⟨g,cap,cur,e,_⟩
   ·simp only [Value.slice.injEq,true_and] at e
    obtain ⟨rfl,rfl⟩ := e
    cases a <;> simp [Builtin.append_,run_underlying ht,sizeOf,typeInfo,hi0,Builtin.lenOf,Builtin.firstCells,storeCells,loadCells,loadCellsFrom]
   ·simp at e
  | some x => cases a <;> simp [Builtin.append_,run_underlying ht,sizeOf,typeInfo,hi0,Builtin.lenOf,Builtin.firstCells,storeCells,loadCells,loadCellsFrom,hn0,hc1]
 ·obtain ⟨b,off,rfl,_,_,hc⟩ := hx (by omega)
  have hnews : ∀ (j : Nat) u,(hdL xs)[j]? = some u -> w.cell? ((⟨b,off,none⟩ : Addr).add j) = some u := by
   intro j u hj
   have hjl : j < xs.length * 3 := by
    rcases Nat.lt_or_ge j (xs.length * 3) with h | h
    ·exact h
    ·rw [List.getElem?_eq_none (by rw [hdL_length]; exact h)] at hj; simp at hj
   have hadd : (⟨b,off,none⟩ : Addr).add j = ⟨b,off + j,none⟩ := by unfold Addr.add; split <;> simp_all
   rw [hadd,hc j (by omega),<- hj,hdL_at xs hjl]
  obtain ⟨v',w',h1,h2,h3,h4,h5⟩ := run_append_own_at (P := P) w B t t 83 i0 (.agg #[.int .i64 0,.string ByteArray.empty,.bool false]) 3 32 ht hi0 hz0 hz1 hz2 rfl (by decide) _ ys.length (hdL ys) ho ⟨b,off,none⟩ xs.length c (hdL xs) (by rw [hdL_length]) hnews
   (hdL_one xs) (by unfold maxLen; omega) (by omega) hB
  rw [<- hdL_append] at h2
  have h2' : HdOwn B w' v' (ys ++ xs) := by
   show World.ownsRow _ _ _ _ _ (ys ++ xs).length _
   rw [List.length_append]
   exact h2
  obtain ⟨a',c',rfl,_⟩ := hd_form h2'
  rw [List.length_append,<- hn0] at h1 h2' h5
  exact ⟨a',c',w',h1,h2',h3,h5⟩
end Go.Proofs.YtgjoepdfhadmcaaGreatDoor
end

section
namespace Go.Proofs.YtgjoepdfhadmcaaGreatDoor
open Go.RowKit
set_option linter.unusedVariables false
set_option maxRecDepth 20000
structure CacheMem (B : Nat) (w : World) (px : Nat) (rm : Int) (iv : Value) (z st : Int) (n g c gm cm : Nat) (A : Nat -> Option Addr) (C : Nat -> Nat) (qs : List Sq) (ps : List Pl) (op : Int) : Prop where
 sq : GrowSqs B w n qs g A C
 pl : PlOwn B w (.slice (some ⟨gm,0,none⟩) ps.length cm) ps
 box : w.heap[px]? = some (.cells #[.int .i64 rm,iv,.int .i64 z,.slice (some ⟨g,0,none⟩) n c,.slice (some ⟨gm,0,none⟩) ps.length cm,.int .i64 op,.int .i64 st] 65)
 ne : gm ≠ g
 nx : px ≠ g
 bx : B <= px
section
variable {B px n g c gm cm : Nat} {w w' : World} {rm : Int} {iv : Value} {z st : Int} {A : Nat -> Option Addr} {C : Nat -> Nat} {qs : List Sq} {ps : List Pl} {op : Int}
theorem CacheMem.later (h : CacheMem B w px rm iv z st n g c gm cm A C qs ps op) (hb : Below w.heap.size w w') : CacheMem B w' px rm iv z st n g c gm cm A C qs ps op :=
 ⟨h.sq.later hb,own_keepBy h.pl (grown_below hb none) (fun k e => by cases e),block_on h.box hb,h.ne,h.nx,h.bx⟩
end
theorem Frame.less {B : Nat} {L L' : List Nat} {w0 w w' : World} (h : Frame B L w w') (hb : Below w0.heap.size w0 w) (hB : B <= w0.heap.size) (hL : ∀ k,k ∈ L -> k < w0.heap.size -> k ∈ L') : Frame B L' w0 w' :=
 ⟨(hb.mono hB).trans h.below,fun k cs T fr h1 h2 h3 h4 => h.other k cs T fr (fun e => h1 (hL k e (Array.getElem?_eq_some_iff.1 h4).1)) h2 h3 (block_on h4 hb)⟩
end Go.Proofs.YtgjoepdfhadmcaaGreatDoor
end

section
namespace Go.Proofs.YtgjoepdfhadmcaaGreatDoor
open Go.RowKit
set_option linter.unusedVariables false
set_option maxRecDepth 20000
theorem wpList_append_two {P : Program} {w : World} {ops : Array Oper} {rest : List Oper} {o : Oper} {a : Act} {Q : Exit -> Act -> World -> Prop} (hgd : o.guard = none) (s x : Operand) (t t2 : TypeId)
  (ho : o.op = .call { callee := .builtin .append,args := #[s,x],argTypes := #[t,t2] }) (v1 v2 v' : Value) (w' : World) (hs : a.eval s = v1) (hx : a.eval x = v2)
  (hrun : (Builtin.append_ #[t,t2] o.type #[v1,v2]).run P w = .ok v' w') (h : wpList P ops Q rest (a.put o.dst v') w') : wpList P ops Q (o :: rest) a w := by
 refine wpList_plain hgd fun K hK => ?_
 unfold Oper.wp
 simp [execOp,ho,resolve,invoke,builtin,hs,hx,hrun,Result.andThen]
 exact hK _ _ h
theorem three_set' {W : World} {b : Nat} {c0 c1 c2 : Value} {t : TypeId} {fr : Nat × Nat} (h : W.heap[b]? = some (.cells #[c0,c1,c2] t fr)) (v0 v1 v2 : Value) :
  (((W.setCell ⟨b,0,none⟩ v0).setCell ⟨b,1,none⟩ v1).setCell ⟨b,2,none⟩ v2).heap[b]? = some (.cells #[v0,v1,v2] t fr) :=
 set_block (set_block (set_block h 0 v0 (by simp)) 1 v1 (by simp)) 2 v2 (by simp)
set_option maxHeartbeats 800000 in
theorem copyOfHeld_any (k : Int) (x : ByteArray) (d : Bool) (w : World) (hx : x.size <= 1048576) :
  Calls Tryz.prog 160 #[.agg #[.int .i64 k,.string x,.bool d]] w fun e w' => e = .returned (.agg #[.int .i64 k,.string x,.bool d]) ∧ Below w.heap.size w w' := by
 obtain ⟨wA,hwA⟩ : ∃ wA,wA = (w.alloc (.cells #[.int .i64 k,.string x,.bool d] 83)).alloc (.cells #[.int .i64 0,.string { data := #[] },.bool false] 83) := ⟨_,rfl⟩
 have hzA : wA.heap.size = w.heap.size + 1 + 1 := by rw [hwA]; simp
 have HBA : Hid (Below w.heap.size w wA) := by rw [hwA]; exact ((Below.refl _ _).alloc (Nat.le_refl _) _).alloc (by simp) _
 have H0 : Hid (wA.heap[w.heap.size]? = some (.cells #[.int .i64 k,.string x,.bool d] 83)) := by rw [hwA]; exact heap_old (heap_new _ _)
 have H1 : Hid (wA.heap[w.heap.size + 1]? = some (.cells #[.int .i64 0,.string { data := #[] },.bool false] 83)) := by rw [hwA]; exact heap_at (by simp)
 obtain ⟨c0,c1,c2⟩ := three_cells H0.out
 go_enter Tryz.func160,Tryz.ntmps160
 go_wp2_with fail
 rw [<- hwA]
 clear hwA
 refine (cloneT_any x wA hx).mono ?_
 rintro e w1 ⟨rfl,b1⟩
 have K0 := hide (block_on H0.out b1)
 have K1 := hide (block_on H1.out b1)
 have HB1 := hide (below_here HBA.out b1)
 have hs1 := b1.size
 clear b1 H0 H1 c0 c1 c2
 obtain ⟨c0,c1,c2⟩ := three_cells K0.out
 obtain ⟨d0,d1,d2⟩ := three_cells K1.out
 have f1 := four_frozen K0.out 1
 have g0 := four_frozen K1.out 0
 have g1 := four_frozen K1.out 1
 have g2 := four_frozen K1.out 2
 have hne : w.heap.size ≠ w.heap.size + 1 := by omega
 have HRS := hide (three_set' (set_other (o := 1) K1.out hne (.string x)) (.int .i64 k) (.string x) (.bool d))
 have HAS := hide ((((((Aside.refl w.heap.size (w.heap.size + 2) w1).setCell (p := ⟨w.heap.size,1,none⟩) (Nat.le_refl _) (by simp) (.string x)).setCell (p := ⟨w.heap.size + 1,0,none⟩) (by simp) (by simp) (.int .i64 k)).setCell (p := ⟨w.heap.size + 1,1,none⟩) (by simp) (by simp) (.string x)).setCell (p := ⟨w.heap.size + 1,2,none⟩) (by simp) (by simp) (.bool d)))
 have HBF := hide (HB1.out.trans (HAS.out.below (B := w.heap.size) (Nat.le_refl _) (by omega)))
 go_wp2_with fail
 exact bodyPost_ret (results_cell rfl rfl (run_loadVar_row _ _ _ _ _ _ _ HRS.out Tryz.underlying83 rfl (by kernel_rfl))) rfl ⟨rfl,HBF.out⟩
set_option maxHeartbeats 1600000 in
theorem cloneHd_any (ai : Option Addr) (ni ci : Nat) (ys : List Hd) (w : World) {lo hi : Nat} (hy : Helds lo hi w ai ni ys) (hhi : hi <= w.heap.size) (hn : ni <= 1048576) :
  Calls Tryz.prog 204 #[.slice ai ni ci] w fun e w' => ∃ a' c',e = .returned (.slice a' ni c') ∧ HdOwn w.heap.size w' (.slice a' ni c') ys ∧ Below w.heap.size w w' := by
 cases ai with
 | none =>
  have h0 : ni = 0 := by
   rcases Nat.eq_zero_or_pos ni with h | h
   ·exact h
   ·obtain ⟨b,off,e,_⟩ := hy.2.2 (by omega); cases e
  subst h0
  have hys : ys = [] := List.eq_nil_of_length_eq_zero hy.1
  subst hys
  have hq : ∀ w,(binOp BinOp.eql 199 (.slice none 0 ci) (.slice none 0 0)).run Tryz.prog w = .ok (.bool true) w := fun w => by kernel_rfl
  go_enter Tryz.func204,Tryz.ntmps204
  go_wp2_with fail
  go_ret
  exact ⟨none,0,rfl,hd_nil _ _,Below.refl _ _⟩
 | some x =>
  obtain ⟨wC,hwC⟩ : ∃ wC,wC = w.alloc (.cells #[] 83) := ⟨_,rfl⟩
  have hzC : wC.heap.size = w.heap.size + 1 := by rw [hwC]; simp
  have HBC : Hid (Below w.heap.size w wC) := by rw [hwC]; exact (Below.refl _ _).alloc (Nat.le_refl _) _
  have HMD : Hid (HdOwn w.heap.size wC (.slice (some ⟨w.heap.size,0,none⟩) 0 0) []) := by rw [hwC]; exact hd_made0 w
  obtain ⟨a',c',w2,hap,hpo,hgr,hat⟩ := append_helds (P := Tryz.prog) Tryz.infoHeld Tryz.underlying199 HMD.out (by omega) (c := ci) (hy.later HBC.out hhi) (by omega)
  rw [Nat.zero_add] at hap hpo
  rw [List.nil_append] at hpo
  have HAP := hide hap
  have HPO := hide hpo
  have HB2 : Hid (Below w.heap.size w w2) := HBC.out.grown hgr (by omega) (fun k e => by have e' : some w.heap.size = some k := e; simp only [Option.some.injEq] at e'; omega)
  clear hap hpo hgr hat HMD hy hzC
  have hq : ∀ w,(binOp BinOp.eql 199 (.slice (some x) ni ci) (.slice none 0 0)).run Tryz.prog w = .ok (.bool false) w := fun w => by kernel_rfl
  go_enter Tryz.func204,Tryz.ntmps204
  go_wp2_with (at_builtin; rw [<- hwC]; refine wpList_append_eq rfl (.tmp 5) (.tmp 6) 199 rfl _ _ _ w2 rfl rfl HAP.out ?_)
  go_ret
  exact ⟨a',c',rfl,HPO.out,HB2.out⟩
theorem zeroCells_size (z : Array Value) (n : Nat) : (Builtin.zeroCells z n).size = n * z.size := by unfold Builtin.zeroCells; simp
theorem grow_row (w : World) (n : Nat) (h0 : 0 < n) (hn : n <= 1048576) (z : Value) (hz : z.cells.size = 3) (T : TypeId) :
  (w.drew.alloc (.cells (Builtin.zeroCells z.cells n ++ Builtin.zeroCells z.cells (grownCap w n 0 T - n)) T)).ownsRow w.heap.size T 3 (.slice (some ⟨w.heap.size,0,none⟩) 0 (grownCap w n 0 T)) 0 [] := by
 have hge := grownCap_ge w n 0 T
 refine ⟨rfl,.inr ⟨w.heap.size,_,_,rfl,Nat.le_refl _,heap_alloc_new w.drew _,Nat.zero_le _,grownCap_le_maxLen w n 0 T (by unfold maxLen; omega),?_,?_⟩⟩
 ·rw [Array.size_append,zeroCells_size,zeroCells_size,hz]; omega
 ·simp
set_option maxHeartbeats 1600000 in
theorem growHd_any (n : Nat) (w : World) (hn : n <= 1048576) :
  Calls Tryz.prog 226 #[.slice none 0 0,.int .i64 (n : Int)] w fun e w' => ∃ a' c',e = .returned (.slice a' 0 c') ∧ HdOwn w.heap.size w' (.slice a' 0 c') [] ∧ Below w.heap.size w w' := by
 obtain ⟨i0,hi0,hz0,hz1,hz2⟩ := info_parts Tryz.infoHeld
 rcases Nat.eq_zero_or_pos n with h0 | h0
 ·subst h0
  go_enter Tryz.func226,Tryz.ntmps226
  go_wp2_with fail
  go_ret
  exact ⟨none,0,rfl,hd_nil _ _,Below.refl _ _⟩
 ·have hr := Lib.run_append_nil_zeros (P := Tryz.prog) w 199 3 199 83 i0 (.agg #[.int .i64 0,.string ByteArray.empty,.bool false]) .i64 .i64 Tryz.underlying199 Tryz.underlying3 hi0 hz0 n h0 (by rw [hz1]; omega) (by omega) (by rw [hz2]; omega)
  have hG := grow_row w n h0 hn (.agg #[.int .i64 0,.string ByteArray.empty,.bool false]) rfl 83
  have hcap := grownCap_le_maxLen w n 0 83 (by unfold maxLen; omega)
  have hge := grownCap_ge w n 0 83
  generalize grownCap w n 0 83 = cp at *
  obtain ⟨w2,hw2⟩ : ∃ w2,w2 = w.drew.alloc (.cells (Builtin.zeroCells (Value.agg #[.int .i64 0,.string ByteArray.empty,.bool false]).cells n ++ Builtin.zeroCells (Value.agg #[.int .i64 0,.string ByteArray.empty,.bool false]).cells (cp - n)) 83) := ⟨_,rfl⟩
  rw [<- hw2] at hr hG
  have HG := hide hG
  have HR := hide hr
  have HB2 : Hid (Below w.heap.size w w2) := by rw [hw2]; exact (Below.refl w.heap.size w).drew.alloc (Nat.le_refl _) _
  have g1 : decide ((n : Int) > 0) = true := by simp; omega
  unfold maxLen at hcap
  clear hr hG hw2
  go_enter Tryz.func226,Tryz.ntmps226
  go_wp2_with (at_builtin; refine wpList_append_two rfl (.tmp 20) (.tmp 21) 199 3 rfl _ _ _ w2 rfl rfl HR.out ?_)
  go_ret
  exact ⟨_,cp,rfl,HG.out,HB2.out⟩
end Go.Proofs.YtgjoepdfhadmcaaGreatDoor
end

section
namespace Go.Proofs.YtgjoepdfhadmcaaGreatDoor
open Go.RowKit
set_option linter.unusedVariables false
set_option maxRecDepth 20000
set_option maxHeartbeats 3200000 in
theorem concatHd_any (b : Nat) (a1 : Option Addr) (n1 c1 : Nat) (xs : List Hd) (a2 : Option Addr) (n2 c2 : Nat) (ys : List Hd) (w : World) (hb0 : w.cell? ⟨b,0,none⟩ = some (.slice a1 n1 c1)) (hb1 : w.cell? ⟨b,1,none⟩ = some (.slice a2 n2 c2)) (hbl : b < w.heap.size)
  {l1 r1 l2 r2 : Nat} (h1 : Helds l1 r1 w a1 n1 xs) (hr1 : r1 <= w.heap.size) (h2 : Helds l2 r2 w a2 n2 ys) (hr2 : r2 <= w.heap.size) (hn : n1 + n2 <= 1048576) :
  Calls Tryz.prog 205 #[.slice (some ⟨b,0,none⟩) 2 2] w fun e w' => ∃ a' c',e = .returned (.slice a' (n1 + n2) c') ∧ HdOwn w.heap.size w' (.slice a' (n1 + n2) c') (xs ++ ys) ∧ Below w.heap.size w w' := by
 have H1 := hide h1
 have H2 := hide h2
 clear h1 h2
 go_enter Tryz.func205,Tryz.ntmps205
 go_wp2_with fail
 go_loopw [3,11] (fun t i wr => ∃ k : Nat,k <= 2 ∧ i = .int .i64 (k : Int) ∧ t = .int .i64 ((if k = 0 then 0 else if k = 1 then n1 else n1 + n2 : Nat) : Int) ∧ w = wr) (fun _ i _ => 2 - (intOf i).toNat)
 case atStart => exact ⟨0,by omega,rfl,rfl,rfl⟩
 case round =>
  obtain ⟨k,hk,rfl,rfl,rfl⟩ := hrel
  obtain rfl | rfl | rfl : k = 0 ∨ k = 1 ∨ k = 2 := by omega
  ·have g1 : decide ((n1 : Int) < 0) = false := by simp
   simp only [if_true,show ((0 : Nat) : Int) = 0 from rfl]
   go_wp2_with fail
   go_roundw
   case rel => exact ⟨1,by omega,by go_num,by simp⟩
   case measure => simp [intOf]
  ·have g1 : decide ((n1 : Int) + (n2 : Int) < 0) = false := by simp; omega
   simp only [show (1 : Nat) ≠ 0 by omega,if_false,if_true,show ((1 : Nat) : Int) = 1 from rfl]
   go_wp2_with fail
   go_roundw
   case rel => exact ⟨2,by omega,by go_num,by simp⟩
   case measure => simp [intOf]
  ·simp only [show (2 : Nat) ≠ 0 by omega,show (2 : Nat) ≠ 1 by omega,if_false,show ((2 : Nat) : Int) = 2 from rfl]
   go_wp2_with fail
   refine (growHd_any (n1 + n2) w hn).mono ?_
   rintro e w1 ⟨a0,c0,rfl,ho,b1⟩
   have HO := hide ho
   have HB1 := hide b1
   clear ho b1
   go_wp2_with fail
   go_loopw [6,27] (fun t i wr => ∃ (k : Nat) (a' : Option Addr) (c' : Nat),k <= 2 ∧ i = .int .i64 (k : Int) ∧ t = .slice a' (if k = 0 then 0 else if k = 1 then n1 else n1 + n2) c' ∧ HdOwn w.heap.size wr (.slice a' (if k = 0 then 0 else if k = 1 then n1 else n1 + n2) c') (if k = 0 then [] else if k = 1 then xs else xs ++ ys) ∧ Below w.heap.size w wr) (fun _ i _ => 2 - (intOf i).toNat)
   case atStart => exact ⟨0,a0,c0,by omega,rfl,rfl,HO.out,HB1.out⟩
   case round =>
    obtain ⟨k,a',c',hk,rfl,rfl,hown,hbel⟩ := hrel
    have hsz := hbel.size
    have e0 := (hbel.cell (p := ⟨b,0,none⟩) hbl).trans hb0
    have e1 := (hbel.cell (p := ⟨b,1,none⟩) hbl).trans hb1
    have HBB := hide hbel
    have HOW := hide hown
    clear hown hbel
    obtain rfl | rfl | rfl : k = 0 ∨ k = 1 ∨ k = 2 := by omega
    ·simp only [if_true] at HOW
     obtain ⟨a'',c'',w2,hap,hpo,hgr,hat⟩ := append_helds (P := Tryz.prog) Tryz.infoHeld Tryz.underlying199 HOW.out (by omega) (c := c1) (H1.out.later HBB.out hr1) (by omega)
     rw [Nat.zero_add] at hap hpo
     rw [List.nil_append] at hpo
     have HAP := hide hap
     have HPO := hide hpo
     have HB2 : Hid (Below w.heap.size w w2) := HBB.out.grown hgr (by omega) (fun q e => (World.ownsRow.lt HOW.out q e).1)
     clear hap hpo hgr hat
     simp only [if_true,show ((0 : Nat) : Int) = 0 from rfl]
     go_wp2_with (at_builtin; refine wpList_append_eq rfl (.tmp 31) (.tmp 32) 199 rfl _ _ _ w2 rfl rfl HAP.out ?_)
     go_roundw
     case rel => exact ⟨1,a'',c'',by omega,by go_num,by simp,by simpa using HPO.out,HB2.out⟩
     case measure => simp [intOf]
    ·simp only [show (1 : Nat) ≠ 0 by omega,if_false,if_true] at HOW
     obtain ⟨a'',c'',w2,hap,hpo,hgr,hat⟩ := append_helds (P := Tryz.prog) Tryz.infoHeld Tryz.underlying199 HOW.out (by omega) (c := c2) (H2.out.later HBB.out hr2) (by omega)
     have HAP := hide hap
     have HPO := hide hpo
     have HB2 : Hid (Below w.heap.size w w2) := HBB.out.grown hgr (by omega) (fun q e => (World.ownsRow.lt HOW.out q e).1)
     clear hap hpo hgr hat
     simp only [show (1 : Nat) ≠ 0 by omega,if_false,if_true,show ((1 : Nat) : Int) = 1 from rfl]
     go_wp2_with (at_builtin; refine wpList_append_eq rfl (.tmp 31) (.tmp 32) 199 rfl _ _ _ w2 rfl rfl HAP.out ?_)
     go_roundw
     case rel => exact ⟨2,a'',c'',by omega,by go_num,by simp,by simpa using HPO.out,HB2.out⟩
     case measure => simp [intOf]
    ·simp only [show (2 : Nat) ≠ 0 by omega,show (2 : Nat) ≠ 1 by omega,if_false] at HOW
     simp only [show (2 : Nat) ≠ 0 by omega,show (2 : Nat) ≠ 1 by omega,if_false,show ((2 : Nat) : Int) = 2 from rfl]
     go_wp2_with fail
     go_ret
     exact ⟨a',c',rfl,HOW.out,HBB.out⟩
theorem helds_take {lo hi n : Nat} {w : World} {a : Option Addr} {ys : List Hd} (h : Helds lo hi w a n ys) (k : Nat) (hk : k <= n) : Helds lo hi w a k (ys.take k) := by
 obtain ⟨h1,h2,h3⟩ := h
 refine ⟨by rw [List.length_take]; omega,h2,fun h0 => ?_⟩
 obtain ⟨b,off,e,h4,h5,h6⟩ := h3 (by omega)
 refine ⟨b,off,e,h4,h5,fun i hi' => ?_⟩
 rw [h6 i (by omega)]
 congr 1
 unfold cellH hdAt
 have : (ys.take k).getD (i / 3) (0,ByteArray.empty,false) = ys.getD (i / 3) (0,ByteArray.empty,false) := by
  rw [List.getD_eq_getElem?_getD,List.getD_eq_getElem?_getD,List.getElem?_take,if_pos (by omega)]
 rw [this]
theorem helds_drop {lo hi n b off : Nat} {w : World} {ys : List Hd} (h : Helds lo hi w (some ⟨b,off,none⟩) n ys) (k : Nat) (hk : k <= n) : Helds lo hi w (some ⟨b,off + k * 3,none⟩) (n - k) (ys.drop k) := by
 obtain ⟨h1,h2,h3⟩ := h
 refine ⟨by rw [List.length_drop]; omega,h2,fun h0 => ?_⟩
 obtain ⟨b',off',e,h4,h5,h6⟩ := h3 (by omega)
 simp only [Option.some.injEq,Addr.mk.injEq,and_true] at e
 obtain ⟨rfl,rfl⟩ := e
 refine ⟨b,off + k * 3,rfl,h4,h5,fun i hi' => ?_⟩
 rw [show off + k * 3 + i = off + (k * 3 + i) by omega,h6 (k * 3 + i) (by omega)]
 congr 1
 unfold cellH hdAt
 rw [show (k * 3 + i) % 3 = i % 3 by omega,show (k * 3 + i) / 3 = k + i / 3 by omega]
 have : (ys.drop k).getD (i / 3) (0,ByteArray.empty,false) = ys.getD (k + i / 3) (0,ByteArray.empty,false) := by
  rw [List.getD_eq_getElem?_getD,List.getD_eq_getElem?_getD,List.getElem?_drop]
 rw [this]
theorem helds_nil (lo hi : Nat) (w : World) (a : Option Addr) (h : hi <= w.heap.size) : Helds lo hi w a 0 [] := ⟨rfl,h,fun h => absurd h (by omega)⟩
set_option maxHeartbeats 3200000 in
theorem withoutNo_any (ai : Option Addr) (ni ci : Nat) (ys : List Hd) (w : World) {lo hi : Nat} (hy : Helds lo hi w ai ni ys) (hhi : hi <= w.heap.size) (hn : ni <= 1048576) :
  Calls Tryz.prog 161 #[.slice ai ni ci,.int .i64 (-1)] w fun e w' => ∃ a' c',e = .returned (.slice a' ni c') ∧ HdOwn w.heap.size w' (.slice a' ni c') ys ∧ Below w.heap.size w w' := by
 go_enter Tryz.func161,Tryz.ntmps161
 go_wp2_with fail
 refine (cloneHd_any ai ni ci ys w hy hhi hn).mono ?_
 rintro e w1 ⟨a',c',rfl,ho,b1⟩
 go_wp2_with fail
 go_ret
 exact ⟨a',c',rfl,ho,b1⟩
theorem slice_front3 {P : Program} (t e : TypeId) (ht : P.underlying t = some (.slice e)) (hs : ∀ w,(sizeOf e).run P w = .ok 3 w) (b off n cap k : Nat) (hk : k <= n) (hn : n <= cap) :
  ∀ w,(Instr.sliceAt t (.slice (some ⟨b,off,none⟩) n cap) none (some (.int .i64 (k : Int))) none).run P w = .ok (.slice (some ⟨b,off,none⟩) k cap) w := by
 intro w
 have he : P.elem t = e := by simp [Program.elem,ht]
 have ht' : P.underlying t = some (.slice (P.elem t)) := by rw [he]; exact ht
 rw [run_sliceAt_slice w t _ _ _ _ ht',run_slice_h (P := P) w t _ n cap ht' .i64 (k : Int) (by omega) (by omega),he,hs]
 simp [sliced,Result.andThen,Addr.add]
theorem slice_rest3 {P : Program} (t e : TypeId) (ht : P.underlying t = some (.slice e)) (hs : ∀ w,(sizeOf e).run P w = .ok 3 w) (b off n cap k : Nat) (hk : k <= n) (hn : n <= cap) :
  ∃ ad : Addr,(ad = ⟨b,off + k * 3,none⟩ ∨ n - k = 0) ∧ ∀ w,(Instr.sliceAt t (.slice (some ⟨b,off,none⟩) n cap) (some (.int .i64 (k : Int))) none none).run P w = .ok (.slice (some ad) (n - k) (cap - k)) w := by
 have he : P.elem t = e := by simp [Program.elem,ht]
 have ht' : P.underlying t = some (.slice (P.elem t)) := by rw [he]; exact ht
 by_cases h : cap = k
 ·refine ⟨⟨b,off,none⟩,.inr (by omega),fun w => ?_⟩
  rw [run_sliceAt_slice w t _ _ _ _ ht',run_slice_l (P := P) w t _ n cap ht' .i64 (k : Int) (by omega) (by omega),he,hs]
  simp [sliced,h,Result.andThen]
 ·refine ⟨⟨b,off + k * 3,none⟩,.inl rfl,fun w => ?_⟩
  rw [run_sliceAt_slice w t _ _ _ _ ht',run_slice_l (P := P) w t _ n cap ht' .i64 (k : Int) (by omega) (by omega),he,hs]
  simp [sliced,h,Result.andThen,Addr.add]
theorem helds_rest {lo hi n b off : Nat} {w : World} {ys : List Hd} (h : Helds lo hi w (some ⟨b,off,none⟩) n ys) (k : Nat) (hk : k <= n) {ad : Addr} (had : ad = ⟨b,off + k * 3,none⟩ ∨ n - k = 0) : Helds lo hi w (some ad) (n - k) (ys.drop k) := by
 rcases had with rfl | h0
 ·exact helds_drop h k hk
 ·have e : ys.drop k = [] := List.drop_of_length_le (by rw [h.1]; omega)
  rw [h0,e]
  exact helds_nil _ _ _ _ h.2.1
set_option maxHeartbeats 3200000 in
theorem without_any (b off : Nat) (ni ci : Nat) (ys : List Hd) (k : Nat) (w : World) {lo hi : Nat} (hy : Helds lo hi w (some ⟨b,off,none⟩) ni ys) (hhi : hi <= w.heap.size) (hn : ni <= 1048576) (hci : ni <= ci) (hk : k < ni) :
  Calls Tryz.prog 161 #[.slice (some ⟨b,off,none⟩) ni ci,.int .i64 (k : Int)] w fun e w' => ∃ a' c',e = .returned (.slice a' (k + (ni - (k + 1))) c') ∧ HdOwn w.heap.size w' (.slice a' (k + (ni - (k + 1))) c') (ys.take k ++ ys.drop (k + 1)) ∧ Below w.heap.size w w' := by
 have g0 : decide ((k : Int) < 0) = false := by simp
 have H1 := hide (helds_take hy k (by omega))
 have hsl1 := slice_front3 (P := Tryz.prog) 199 83 Tryz.underlying199 (fun _ => by kernel_rfl) b off ni ci k (by omega) hci
 obtain ⟨ad,had,hsl2⟩ := slice_rest3 (P := Tryz.prog) 199 83 Tryz.underlying199 (fun _ => by kernel_rfl) b off ni ci (k + 1) (by omega) hci
 have H2 := hide (helds_rest hy (k + 1) (by omega) had)
 obtain ⟨r,hr⟩ : ∃ r,r = k + 1 := ⟨_,rfl⟩
 have i6 : IntKind.i64.wrap ((k : Int) + 1) = (r : Int) := by rw [IntKind.wrap_i64]; omega
 have hsm : k + (ni - r) <= 1048576 := by omega
 rw [<- hr] at hsl2 H2
 rw [<- hr]
 clear had hr hy
 obtain ⟨wC,hwC⟩ : ∃ wC,wC = w.alloc (.cells #[.slice (some ⟨b,off,none⟩) k ci,.slice (some ad) (ni - r) (ci - r)] 199) := ⟨_,rfl⟩
 have HBC : Hid (Below w.heap.size w wC) := by rw [hwC]; exact (Below.refl _ _).alloc (Nat.le_refl _) _
 have HC : Hid (wC.heap[w.heap.size]? = some (.cells #[.slice (some ⟨b,off,none⟩) k ci,.slice (some ad) (ni - r) (ci - r)] 199)) := by rw [hwC]; exact heap_new _ _
 have hzC : wC.heap.size = w.heap.size + 1 := by rw [hwC]; simp
 have HCC : Hid (Calls Tryz.prog 205 #[.slice (some ⟨w.heap.size,0,none⟩) 2 2] wC.drew fun e w' => ∃ a' c',e = .returned (.slice a' (k + (ni - r)) c') ∧ HdOwn w.heap.size w' (.slice a' (k + (ni - r)) c') (ys.take k ++ ys.drop r) ∧ Below w.heap.size w w') := by
  have hd : Below wC.heap.size wC wC.drew := (Below.refl wC.heap.size wC).drew
  obtain ⟨x0,x1⟩ := two_cells HC.out
  refine (concatHd_any w.heap.size (some ⟨b,off,none⟩) k ci (ys.take k) (some ad) (ni - r) (ci - r) (ys.drop r) wC.drew x0 x1 (by show w.heap.size < wC.heap.size; omega) ((H1.out.later HBC.out (by omega)).later hd (by omega)) (by show _ <= wC.heap.size; omega) ((H2.out.later HBC.out (by omega)).later hd (by omega)) (by show _ <= wC.heap.size; omega) hsm).mono ?_
  rintro e w2 ⟨a',c',h1,h2,h3⟩
  exact ⟨a',c',h1,h2.mono (by show w.heap.size <= wC.heap.size; omega),below_here (below_here HBC.out hd) h3⟩
 clear H1 H2
 go_enter Tryz.func161,Tryz.ntmps161
 go_upto_region 3 with fail
 rw [hwC] at HCC
 go_region_with (go_at_call 205; refine (show Calls _ _ _ _ _ from HCC.out).mono ?_; rintro e w5 ⟨a',c',rfl,ho5,b5⟩; have HO5 := hide ho5; have HB5 := hide b5; clear ho5 b5)
 all_goals
  go_wp2_with fail
  go_ret
  exact ⟨a',c',rfl,HO5.out,HB5.out⟩
set_option maxHeartbeats 3200000 in
theorem behind_any (ai : Option Addr) (ni ci : Nat) (ys : List Hd) (xa : Int) (xt : ByteArray) (xd : Bool) (w : World) {lo hi : Nat} (hy : Helds lo hi w ai ni ys) (hhi : hi <= w.heap.size) (hn : ni <= 1048000) :
  Calls Tryz.prog 162 #[.slice ai ni ci,.agg #[.int .i64 xa,.string xt,.bool xd]] w fun e w' => ∃ a' c',e = .returned (.slice a' (1 + ni) c') ∧ HdOwn w.heap.size w' (.slice a' (1 + ni) c') ((xa,xt,xd) :: ys) ∧ Below w.heap.size w w' := by
 obtain ⟨wA,hwA⟩ : ∃ wA,wA = w.alloc (.cells #[.int .i64 xa,.string xt,.bool xd] 83) := ⟨_,rfl⟩
 have HBA : Hid (Below w.heap.size w wA) := by rw [hwA]; exact (Below.refl _ _).alloc (Nat.le_refl _) _
 have HA : Hid (wA.heap[w.heap.size]? = some (.cells #[.int .i64 xa,.string xt,.bool xd] 83)) := by rw [hwA]; exact heap_new _ _
 have hzA : wA.heap.size = w.heap.size + 1 := by rw [hwA]; simp
 obtain ⟨c0,c1,c2⟩ := three_cells HA.out
 rw [hwA] at c0 c1 c2
 obtain ⟨wB,hwB⟩ : ∃ wB,wB = wA.alloc (.cells #[.int .i64 xa,.string xt,.bool xd] 83) := ⟨_,rfl⟩
 have HBB : Hid (Below wA.heap.size wA wB) := by rw [hwB]; exact (Below.refl _ _).alloc (Nat.le_refl _) _
 have HB : Hid (wB.heap[w.heap.size + 1]? = some (.cells #[.int .i64 xa,.string xt,.bool xd] 83)) := by rw [hwB]; exact heap_at (by omega)
 have hzB : wB.heap.size = w.heap.size + 2 := by rw [hwB]; simp; omega
 obtain ⟨wC,hwC⟩ : ∃ wC,wC = wB.alloc (.cells #[.slice (some ⟨w.heap.size + 1,0,none⟩) 1 1,.slice ai ni ci] 199) := ⟨_,rfl⟩
 have HBC : Hid (Below wB.heap.size wB wC) := by rw [hwC]; exact (Below.refl _ _).alloc (Nat.le_refl _) _
 have HC : Hid (wC.heap[w.heap.size + 2]? = some (.cells #[.slice (some ⟨w.heap.size + 1,0,none⟩) 1 1,.slice ai ni ci] 199)) := by rw [hwC]; exact heap_at (by omega)
 have hzC : wC.heap.size = w.heap.size + 3 := by rw [hwC]; simp; omega
 have HBW := hide (below_here (below_here HBA.out HBB.out) HBC.out)
 have HY := hide (hy.later HBW.out hhi)
 have HX : Hid (Helds (w.heap.size + 1) (w.heap.size + 2) wC (some ⟨w.heap.size + 1,0,none⟩) 1 [(xa,xt,xd)]) := by
  refine ⟨rfl,by omega,fun _ => ⟨w.heap.size + 1,0,rfl,Nat.le_refl _,by omega,fun i hi => ?_⟩⟩
  obtain ⟨e0,e1,e2⟩ := three_cells (block_on HB.out HBC.out)
  have : i = 0 ∨ i = 1 ∨ i = 2 := by omega
  rcases this with rfl | rfl | rfl
  ·exact e0
  ·exact e1
  ·exact e2
 obtain ⟨x0,x1⟩ := two_cells HC.out
 have HX0 := hide x0
 have HX1 := hide x1
 clear hy x0 x1
 go_enter Tryz.func162,Tryz.ntmps162
 go_wp2_with fail
 have hwE : ((((w.alloc (.cells #[.int .i64 xa,.string xt,.bool xd] 83)).alloc (.cells #[.int .i64 xa,.string xt,.bool xd] 83)).alloc (.cells #[.slice (some ⟨w.heap.size + 1,0,none⟩) 1 1,.slice ai ni ci] 199))) = wC := by rw [hwC,hwB,hwA]
 rw [hwE]
 clear hwE hwA hwB hwC c0 c1 c2
 refine (concatHd_any (w.heap.size + 2) (some ⟨w.heap.size + 1,0,none⟩) 1 1 [(xa,xt,xd)] ai ni ci ys wC HX0.out HX1.out (by omega) HX.out (by omega) HY.out (by omega) (by omega)).mono ?_
 rintro e w5 ⟨a',c',rfl,ho5,b5⟩
 have HO5 := hide (ho5.mono (show w.heap.size <= wC.heap.size by omega))
 have HB5 := hide (below_here HBW.out b5)
 clear ho5 b5
 go_wp2_with fail
 go_ret
 exact ⟨a',c',rfl,HO5.out,HB5.out⟩
end Go.Proofs.YtgjoepdfhadmcaaGreatDoor
end

section
namespace Go.Proofs.YtgjoepdfhadmcaaGreatDoor
open Go.RowKit
set_option linter.unusedVariables false
set_option maxRecDepth 20000
theorem CacheMem.items {B px n g c gm cm : Nat} {w : World} {rm : Int} {iv : Value} {z st : Int} {A : Nat -> Option Addr} {C : Nat -> Nat} {qs : List Sq} {ps : List Pl} {op : Int} (h : CacheMem B w px rm iv z st n g c gm cm A C qs ps op) (iv' : Value) : CacheMem B (w.setCell ⟨px,1,none⟩ iv') px rm iv' z st n g c gm cm A C qs ps op := by
 have g1 := grown_set w ⟨px,1,none⟩ iv'
 exact ⟨h.sq.keep g1 (fun e => h.nx (by simpa using e)) (fun k e => by simp only [Option.some.injEq] at e; subst e; exact ⟨_,_,_,h.box,by decide⟩),own_keepBy h.pl g1 (fun k e => by simp only [Option.some.injEq] at e; subst e; exact ⟨_,_,_,h.box,by decide⟩),set_block h.box 1 _ (by simp),h.ne,h.nx,h.bx⟩
end Go.Proofs.YtgjoepdfhadmcaaGreatDoor
end

section
namespace Go.Proofs.YtgjoepdfhadmcaaGreatDoor
open Go.RowKit
set_option linter.unusedVariables false
set_option maxRecDepth 20000
theorem flush_kept {ys : List Hd} {f : Fv} (h : ftlOkF f = true) {k : Nat} {YS : List Hd} {F : Fv} (hf : flushN ys f k = some (YS,F)) : ftlOkF F = true ∧ YS.length = ys.length ∧ F.ps.length = f.ps.length ∧ F.qs.length = f.qs.length ∧ F.z = f.z := by
 have h1 := flushN_ok h k (YS,F) hf
 exact ⟨h1.1,h1.2.1,h1.2.2.1,h1.2.2.2.1,h1.2.2.2.2⟩
theorem hdAt_set_ne (ys : List Hd) {i j : Nat} (h : j ≠ i) (x : Hd) : hdAt (ys.set i x) j = hdAt ys j := by
 unfold hdAt
 rw [List.getD_eq_getElem?_getD,List.getD_eq_getElem?_getD,List.getElem?_set_ne (fun e => h e.symm)]
theorem flush_low {ys : List Hd} {f : Fv} : ∀ {k : Nat} {YS : List Hd} {F : Fv},flushN ys f k = some (YS,F) -> ∀ j,j + k < ys.length -> hdAt YS j = hdAt ys j
 | 0,YS,F,h,j,hj => by
  simp only [flushN,Option.some.injEq,Prod.mk.injEq] at h
  rw [<- h.1]
 | k + 1,YS,F,h,j,hj => by
  simp only [flushN,Option.bind_eq_some_iff,Option.map_eq_some_iff,Prod.mk.injEq] at h
  obtain ⟨p,hp,f',_,h1,_⟩ := h
  rw [<- h1,hdAt_set_ne _ (by omega)]
  exact flush_low (F := p.2) hp j (by omega)
theorem hdL_clean (ys : List Hd) {i : Nat} (hi : i < ys.length) : (hdL ys).set (3 * i + 2) (.bool false) = hdL (ys.set i (cleanH (hdAt ys i))) := by
 refine List.ext_getElem? fun j => ?_
 by_cases h : j < ys.length * 3
 ·rw [hdL_at _ (by rw [List.length_set]; exact h),List.getElem?_set]
  simp only [hdL_length]
  by_cases e : j = 3 * i + 2
  ·subst e
   rw [if_pos rfl,if_pos h,cellH2]
   unfold hdAt
   rw [List.getD_eq_getElem?_getD,List.getElem?_set_self hi]
   rfl
  ·rw [if_neg (fun e' => e e'.symm),hdL_at _ h]
   congr 1
   unfold cellH
   by_cases e2 : j / 3 = i
   ·have hx : hdAt (ys.set i (cleanH (hdAt ys i))) (j / 3) = cleanH (hdAt ys i) := by
     rw [e2]; show (ys.set i _).getD i _ = _
     rw [List.getD_eq_getElem?_getD,List.getElem?_set_self hi]; rfl
    rw [hx,e2]
    by_cases e3 : j % 3 = 0
    ·rw [if_pos e3,if_pos e3]; rfl
    ·rw [if_neg e3,if_neg e3]
     by_cases e4 : j % 3 = 1
     ·rw [if_pos e4,if_pos e4]; rfl
     ·exact absurd (by omega) e
   ·rw [hdAt_set_ne _ e2]
 ·rw [List.getElem?_eq_none (by simp [hdL_length]; omega),List.getElem?_eq_none (by rw [hdL_length,List.length_set]; omega)]
theorem flush_none {ys : List Hd} {f : Fv} {k : Nat} (h : flushN ys f k = none) : ∀ d,flushN ys f (k + d) = none
 | 0 => h
 | d + 1 => by
  show flushN ys f ((k + d) + 1) = none
  unfold flushN
  rw [flush_none h d]
  rfl
end Go.Proofs.YtgjoepdfhadmcaaGreatDoor
end

section
namespace Go.Proofs.YtgjoepdfhadmcaaGreatDoor
open Go.RowKit
set_option linter.unusedVariables false
theorem lyP_text (s : ByteArray) : (lyP s).2.2.2.1.size <= 24 := by
 by_cases h : s.size = 0
 ·rw [lyP_blank h]; exact Nat.zero_le _
 ·cases hg : goodL s with
  | false => rw [lyP_torn h hg]; exact Nat.zero_le _
  | true =>
   rw [lyP_good h hg]
   unfold goodL bodyOk pageOk at hg
   simp only [Bool.and_eq_true,decide_eq_true_eq] at hg
   exact hg.2.2.2.2.2.2.2.2.2.2.1
theorem get_size (z : Int) (qs : List Sq) (ps : List Pl) (op st a : Int) : (ftlGet z qs ps op st a).1.size <= 24 := by
 unfold ftlGet
 split
 ·exact lyP_text _
 ·exact Nat.zero_le _
theorem item_size {c : Cv} (hc : COk c) (a : Int) : (itemF c a).2.1.size <= 24 := by
 unfold itemF
 split
 ·exact get_size _ _ _ _ _ _
 ·rename_i h
  rcases idxH_cases c.ys a with h1 | ⟨k,hk,h1,_⟩
  ·exact absurd h1.1 h
  ·rw [h1]; exact (hc.item k hk).2.2
theorem item_miss {c : Cv} {a : Int} (h : idxH c.ys a = -1) : itemF c a = (a,(ftlGet c.f.z c.f.qs c.f.ps c.f.op c.f.st a).1,false) := by unfold itemF; rw [if_pos h]
theorem item_hit {c : Cv} {a : Int} {k : Nat} (h : idxH c.ys a = (k : Int)) : itemF c a = hdAt c.ys k := by
 unfold itemF
 rw [if_neg (by omega),h]
 rfl
theorem three_under {B : Nat} {w W : World} {b : Nat} (h : Below B w W) (hb : B <= b) (v0 v1 v2 : Value) : Below B w (((W.setCell ⟨b,0,none⟩ v0).setCell ⟨b,1,none⟩ v1).setCell ⟨b,2,none⟩ v2) :=
 ((h.setCell (p := ⟨b,0,none⟩) hb v0).setCell (p := ⟨b,1,none⟩) hb v1).setCell (p := ⟨b,2,none⟩) hb v2
end Go.Proofs.YtgjoepdfhadmcaaGreatDoor
end

section
namespace Go.Proofs.YtgjoepdfhadmcaaGreatDoor
open Go.RowKit
set_option linter.unusedVariables false
set_option maxRecDepth 20000
def ApartH (ys : List Hd) : Prop := ys.Pairwise fun x y => x.1 ≠ y.1
theorem apart_of {ys : List Hd} (h : ∀ i,i < ys.length -> ∀ k,k < i -> (hdAt ys k).1 ≠ (hdAt ys i).1) : ApartH ys := by
 unfold ApartH
 rw [List.pairwise_iff_getElem]
 intro i j hi hj hij
 have := h j hj i hij
 rwa [hdAt_get hi,hdAt_get hj] at this
theorem apart_at {ys : List Hd} (h : ApartH ys) : ∀ i,i < ys.length -> ∀ k,k < i -> (hdAt ys k).1 ≠ (hdAt ys i).1 := by
 unfold ApartH at h
 rw [List.pairwise_iff_getElem] at h
 intro i hi k hk
 have := h k i (by omega) hi hk
 rwa [hdAt_get hi,hdAt_get (by omega)]
def EachH (m : Nat) (ys : List Hd) : Prop := ∀ x ∈ ys,0 <= x.1 ∧ x.1 < (m : Int) ∧ x.2.1.size <= 24
theorem each_of {m : Nat} {ys : List Hd} (h : ∀ i,i < ys.length -> 0 <= (hdAt ys i).1 ∧ (hdAt ys i).1 < (m : Int) ∧ (hdAt ys i).2.1.size <= 24) : EachH m ys := by
 intro x hx
 obtain ⟨i,hi,rfl⟩ := List.getElem_of_mem hx
 have := h i hi
 rwa [hdAt_get hi] at this
theorem each_at {m : Nat} {ys : List Hd} (h : EachH m ys) : ∀ i,i < ys.length -> 0 <= (hdAt ys i).1 ∧ (hdAt ys i).1 < (m : Int) ∧ (hdAt ys i).2.1.size <= 24 := by
 intro i hi
 rw [hdAt_get hi]
 exact h _ (List.getElem_mem hi)
theorem front_apart {ys : List Hd} (h : ApartH ys) (x : Hd) : ApartH (frontH ys x) := by
 unfold ApartH frontH at *
 rw [List.pairwise_cons]
 refine ⟨fun y hy => ?_,h.filter _⟩
 unfold restH at hy
 have := (List.mem_filter.1 hy).2
 simp only [Bool.not_eq_true',beq_eq_false_iff_ne] at this
 exact fun e => this e.symm
theorem front_each {m : Nat} {ys : List Hd} (h : EachH m ys) {x : Hd} (hx : 0 <= x.1 ∧ x.1 < (m : Int) ∧ x.2.1.size <= 24) : EachH m (frontH ys x) := by
 intro y hy
 unfold frontH at hy
 rcases List.mem_cons.1 hy with rfl | hy
 ·exact hx
 ·unfold restH at hy
  exact h y (List.mem_filter.1 hy).1
theorem usedF_ok {c c' : Cv} {x : Hd} (h : COk c) (hx : 0 <= x.1 ∧ x.1 < (c.f.ps.length : Int) ∧ x.2.1.size <= 24) (hu : usedF c x = some c') : COk c' ∧ 0 < c'.ys.length ∧ hdAt c'.ys 0 = x ∧ c'.rm = c.rm ∧ c'.f.ps.length = c.f.ps.length := by
 have hl := restH_le c.ys x.1
 have h1 := h.len
 have h2 := h.r0
 have hA := front_apart (apart_of h.apart) x
 have hE := front_each (each_of h.item) hx
 unfold usedF at hu
 split at hu
 ·rename_i hfull
  obtain ⟨f,hf,rfl⟩ := Option.map_eq_some_iff.1 hu
  obtain ⟨k1,k2,k3,k4⟩ := backD_ok (show ftlOkF c.f = true from h.ftl) hf
  have hpos : 0 < (restH c.ys x.1).length := by omega
  have hlen : ((frontH c.ys x).take (restH c.ys x.1).length).length = (restH c.ys x.1).length := by unfold frontH; rw [List.length_take,List.length_cons]; omega
  refine ⟨⟨h.r0,h.r1,?_,k1,?_,?_⟩,?_,?_,rfl,k2⟩
  ·dsimp only; rw [hlen]; omega
  ·dsimp only
   rw [k2]
   exact each_at fun y hy => hE y (List.mem_of_mem_take hy)
  ·dsimp only
   exact apart_at (List.Pairwise.sublist (List.take_sublist _ _) hA)
  ·dsimp only; rw [hlen]; exact hpos
  ·dsimp only
   rw [hdAt_get (by rw [hlen]; exact hpos),List.getElem_take]
   rfl
 ·rename_i hfull
  simp only [Option.some.injEq] at hu
  subst hu
  refine ⟨⟨h.r0,h.r1,?_,h.ftl,each_at hE,apart_at hA⟩,by unfold frontH; simp,rfl,rfl,rfl⟩
  unfold frontH; simp only [List.length_cons]; omega
theorem usedF_again {c : Cv} (h : COk c) (h0 : 0 < c.ys.length) : usedF c (hdAt c.ys 0) = some c := by
 have hrest : restH c.ys (hdAt c.ys 0).1 = c.ys.drop 1 := by
  rw [restH_hit h0 rfl (h.other h0 rfl)]; simp
 have hlen := h.len
 have hf : frontH c.ys (hdAt c.ys 0) = c.ys := by
  unfold frontH
  rw [hrest,hdAt_get h0]
  exact (List.drop_eq_getElem_cons h0).symm
 unfold usedF
 rw [hf,hrest,if_neg (by rw [List.length_drop]; omega)]
theorem idxH_front {ys : List Hd} (h0 : 0 < ys.length) : idxH ys (hdAt ys 0).1 = 0 := idxH_hit (k := 0) h0 rfl (fun j hj => by omega)
theorem keepB_parts {c : Cv} {a : Int} {tx : ByteArray} (h : keepB c a tx = true) : COk c ∧ 0 <= a ∧ a < (c.f.ps.length : Int) ∧ tx.size <= 24 ∧ usedF c (a,tx,true) = some (keepF c a tx) := by
 unfold keepB at h
 rw [Bool.and_eq_true] at h
 obtain ⟨h1,h2⟩ := h
 unfold keepF
 rw [if_pos h1]
 unfold keepO at *
 split at h2
 ·rename_i hm
  rw [if_pos hm]
  unfold mayH inB at hm
  simp only [Bool.and_eq_true,decide_eq_true_eq] at hm
  refine ⟨cacheOk_iff.1 h1,hm.1.1,by omega,hm.2,?_⟩
  obtain ⟨c',hc'⟩ := Option.isSome_iff_exists.1 h2
  rw [hc']; rfl
 ·cases h2
theorem keep_load {c : Cv} {a : Int} {tx : ByteArray} (h : keepB c a tx = true) : cacheOk (keepF c a tx) = true ∧ loadB (keepF c a tx) a = true ∧ loadT (keepF c a tx) a = tx ∧ loadF (keepF c a tx) a = keepF c a tx := by
 obtain ⟨hc,a0,a1,ht,hu⟩ := keepB_parts h
 obtain ⟨k1,k2,k3,k4,k5⟩ := usedF_ok hc ⟨a0,a1,ht⟩ hu
 generalize keepF c a tx = c' at *
 have hok := cacheOk_iff.2 k1
 have hidx : idxH c'.ys a = 0 := by have := idxH_front k2; rw [k3] at this; exact this
 have hit : itemF c' a = (a,tx,true) := by unfold itemF; rw [hidx,if_neg (by decide)]; exact k3
 have hlo : loadO c' a = some c' := by
  unfold loadO
  rw [if_pos (by unfold inB; simp only [Bool.and_eq_true,decide_eq_true_eq]; omega),hit,<- k3]
  exact usedF_again k1 k2
 have hlb : loadB c' a = true := by unfold loadB; rw [hok,hlo]; rfl
 refine ⟨hok,hlb,?_,?_⟩
 ·unfold loadT; rw [if_pos hlb,hit]
 ·unfold loadF; rw [if_pos hok,hlo]; rfl
theorem item_at {c : Cv} (a : Int) : (itemF c a).1 = a := by
 unfold itemF
 split
 ·rfl
 ·rename_i h
  rcases idxH_cases c.ys a with h1 | ⟨k,hk,h1,h2,_⟩
  ·exact absurd h1.1 h
  ·rw [h1]; exact h2
theorem load_ok {c : Cv} {a : Int} (h : loadB c a = true) : cacheOk (loadF c a) = true := by
 unfold loadB at h
 rw [Bool.and_eq_true] at h
 obtain ⟨h1,h2⟩ := h
 have hc := cacheOk_iff.1 h1
 obtain ⟨c',hc'⟩ := Option.isSome_iff_exists.1 h2
 unfold loadF
 rw [if_pos h1,hc']
 unfold loadO at hc'
 split at hc'
 ·rename_i hin
  unfold inB at hin
  simp only [Bool.and_eq_true,decide_eq_true_eq] at hin
  exact cacheOk_iff.2 (usedF_ok hc ⟨by rw [item_at]; exact hin.1,by rw [item_at]; omega,item_size hc a⟩ hc').1
 ·cases hc'
def getF (f : Fv) (a : Int) : ByteArray × Bool := ftlGet f.z f.qs f.ps f.op f.st a
theorem backF_get {f f' : Fv} {x : Hd} (h : ftlOkF f = true) (hb : backF f x = some f') : getF f' x.1 = (x.2.1,true) ∧ ∀ i : Nat,i < f.ps.length -> (i : Int) ≠ x.1 -> getF f' (i : Int) = getF f (i : Int) := by
 unfold backF at hb
 cases he : enterK f.z ⟨f.qs,f.ps,f.op,[]⟩ f.st 1 x.1 x.2.1 with
 | none => rw [he] at hb; cases hb
 | some s =>
  rw [he] at hb
  simp only [Option.map_some,Option.some.injEq] at hb
  subst hb
  have hE := entd_of (z := f.z) (qs := f.qs) (ps := f.ps) (op := f.op) (st := f.st) (kd := 1) (a := x.1) (tx := x.2.1) (s := s) (by unfold planR; unfold ftlOkF at h; rw [h]; exact he)
  exact ⟨hE.here,hE.else_⟩
theorem backD_get {f f' : Fv} {x : Hd} (h : ftlOkF f = true) (hb : backD f x = some f') : (x.2.2 = true -> getF f' x.1 = (x.2.1,true)) ∧ ∀ i : Nat,i < f.ps.length -> (i : Int) ≠ x.1 -> getF f' (i : Int) = getF f (i : Int) := by
 unfold backD at hb
 cases hx : x.2.2 with
 | true => rw [hx] at hb; exact ⟨fun _ => (backF_get h hb).1,(backF_get h hb).2⟩
 | false =>
  rw [hx] at hb
  simp only [Bool.false_eq_true,if_false,Option.some.injEq] at hb
  subst hb
  exact ⟨fun e => (by cases e),fun i _ _ => rfl⟩
theorem hdAt_set_eq (ys : List Hd) {i : Nat} (h : i < ys.length) (x : Hd) : hdAt (ys.set i x) i = x := by
 unfold hdAt
 rw [List.getD_eq_getElem?_getD,List.getElem?_set_self h]
 rfl
theorem flush_told {ys : List Hd} {f : Fv} (hf : ftlOkF f = true) (hE : EachH f.ps.length ys) (hA : ApartH ys) : ∀ (k : Nat) (YS : List Hd) (F : Fv),k <= ys.length -> flushN ys f k = some (YS,F) ->
  (∀ j,j < ys.length -> ys.length <= j + k -> hdAt YS j = cleanH (hdAt ys j)) ∧ (∀ j,j < ys.length -> ys.length <= j + k -> (hdAt ys j).2.2 = true -> getF F (hdAt ys j).1 = ((hdAt ys j).2.1,true)) := by
 intro k
 induction k with
 | zero => intro YS F hk h; exact ⟨fun j h1 h2 => by omega,fun j h1 h2 => by omega⟩
 | succ k ih =>
  intro YS F hk h
  simp only [flushN,Option.bind_eq_some_iff,Option.map_eq_some_iff,Prod.mk.injEq] at h
  obtain ⟨⟨Y1,F1⟩,hp,f',hb,h1,h2⟩ := h
  dsimp only at hb h1 h2
  subst h2
  obtain ⟨i1,i2⟩ := ih Y1 F1 (by omega) hp
  obtain ⟨k1,k2,k3,k4,k5⟩ := flush_kept hf hp
  obtain ⟨g1,g2⟩ := backD_get k1 hb
  have hq : ys.length - 1 - k < ys.length := by omega
  refine ⟨fun j hj hjk => ?_,fun j hj hjk hd => ?_⟩
  ·rw [<- h1]
   by_cases e : j = ys.length - 1 - k
   ·rw [e,hdAt_set_eq _ (by omega)]
   ·rw [hdAt_set_ne _ e]
    exact i1 j hj (by omega)
  ·by_cases e : j = ys.length - 1 - k
   ·rw [e] at hd ⊢
    exact g1 hd
   ·have hne : (hdAt ys (ys.length - 1 - k)).1 ≠ (hdAt ys j).1 := apart_at hA j hj _ (by omega)
    obtain ⟨e0,e1,_⟩ := each_at hE j hj
    have := g2 (hdAt ys j).1.toNat (by omega) (by omega)
    rw [show (((hdAt ys j).1.toNat : Nat) : Int) = (hdAt ys j).1 by omega] at this
    rw [this]
    exact i2 j hj (by omega) hd
theorem flush_all {c : Cv} (h : flushB c = true) : cacheOk (flushF c) = true ∧ (flushF c).ys.length = c.ys.length ∧ (∀ j,j < c.ys.length -> hdAt (flushF c).ys j = cleanH (hdAt c.ys j)) ∧ (∀ j,j < c.ys.length -> (hdAt c.ys j).2.2 = true -> getF (flushF c).f (hdAt c.ys j).1 = ((hdAt c.ys j).2.1,true)) := by
 unfold flushB at h
 rw [Bool.and_eq_true] at h
 obtain ⟨h1,h2⟩ := h
 have hc := cacheOk_iff.1 h1
 obtain ⟨c',hc'⟩ := Option.isSome_iff_exists.1 h2
 have hff : flushF c = c' := by unfold flushF; rw [if_pos h1,hc']; rfl
 rw [hff]
 unfold flushO at hc'
 obtain ⟨⟨Y,F⟩,hp,rfl⟩ := Option.map_eq_some_iff.1 hc'
 have hok : ftlOkF c.f = true := hc.ftl
 obtain ⟨k1,k2,k3,k4,k5⟩ := flush_kept hok hp
 obtain ⟨t1,t2⟩ := flush_told hok (each_of hc.item) (apart_of hc.apart) _ Y F (Nat.le_refl _) hp
 dsimp only
 have hj : ∀ j,j < c.ys.length -> hdAt Y j = cleanH (hdAt c.ys j) := fun j hj => t1 j hj (by omega)
 refine ⟨cacheOk_iff.2 ⟨hc.r0,hc.r1,?_,k1,?_,?_⟩,k2,hj,fun j hj hd => t2 j hj (by omega) hd⟩
 ·dsimp only; rw [k2]; exact hc.len
 ·dsimp only
  intro i hi
  rw [hj i (by omega),k3]
  exact hc.item i (by omega)
 ·dsimp only
  intro i hi k hk
  rw [hj i (by omega),hj k (by omega)]
  exact hc.apart i (by omega) k hk
end Go.Proofs.YtgjoepdfhadmcaaGreatDoor
end

section
namespace Go.Proofs.YtgjoepdfhadmcaaGreatDoor
open Go.RowKit
set_option linter.unusedVariables false
end Go.Proofs.YtgjoepdfhadmcaaGreatDoor
end

section
namespace Go.Proofs.YtgjoepdfhadmcaaGreatDoor
open Go.RowKit
set_option linter.unusedVariables false
section
variable {w : World} {rm : Int} {ai : Option Addr} {ni ci : Nat} {z : Int} {a : Option Addr} {n cap : Nat} {am : Option Addr} {m cm : Nat} {op st : Int} {w1 w2 : World}
end
structure CRd (lo hi : Nat) (w : World) (ai a am : Option Addr) (ys : List Hd) (qs : List Sq) (ps : List Pl) : Prop where
 helds : Helds lo hi w ai ys.length ys
 squares : Squares lo hi w a qs.length qs
 places : Places lo hi w am ps.length ps
 hi_le : hi <= w.heap.size
theorem CacheOwn.rd {lo hi : Nat} {w : World} {ai a am : Option Addr} {ys : List Hd} {qs : List Sq} {ps : List Pl} (h : CacheOwn lo hi w ai a am ys qs ps) : CRd lo hi w ai a am ys qs ps := ⟨h.helds,h.squares,h.places,h.1⟩
theorem CRd.later {lo hi : Nat} {w w' : World} {ai a am : Option Addr} {ys : List Hd} {qs : List Sq} {ps : List Pl} (h : CRd lo hi w ai a am ys qs ps) {B : Nat} (hb : Below B w w') (hB : hi <= B) : CRd lo hi w' ai a am ys qs ps :=
 ⟨h.helds.later hb hB,h.squares.later hb hB,h.places.later hb hB,Nat.le_trans h.hi_le hb.size⟩
theorem CRd.aside {lo hi : Nat} {w w' : World} {ai a am : Option Addr} {ys : List Hd} {qs : List Sq} {ps : List Pl} (h : CRd lo hi w ai a am ys qs ps) {l r : Nat} (hb : Aside l r w w') (hB : r <= lo ∨ hi <= l) : CRd lo hi w' ai a am ys qs ps :=
 ⟨h.helds.aside hb (by omega),h.squares.aside hb (by omega),Places.mk_of h.places hb (by omega),Nat.le_trans h.hi_le hb.size⟩
theorem CRd.wide {lo hi lo' hi' : Nat} {w : World} {ai a am : Option Addr} {ys : List Hd} {qs : List Sq} {ps : List Pl} (h : CRd lo hi w ai a am ys qs ps) (h1 : lo' <= lo) (h2 : hi <= hi') (h3 : hi' <= w.heap.size) : CRd lo' hi' w ai a am ys qs ps :=
 ⟨helds_wide h.helds h1 h2 h3,squares_wide h.squares h1 h2 h3,places_wide h.places h1 h2 h3,h3⟩
structure VarK (s b lo hi : Nat) (rm : Int) (ys : List Hd) (z : Int) (qs : List Sq) (ps : List Pl) (op st : Int) (ai : Option Addr) (ci : Nat) (a : Option Addr) (c : Nat) (am : Option Addr) (cm : Nat) (w : World) : Prop where
 var : w.heap[b]? = some (.cells #[.int .i64 rm,.slice ai ys.length ci,.int .i64 z,.slice a qs.length c,.slice am ps.length cm,.int .i64 op,.int .i64 st] 65)
 rd : CRd lo hi w ai a am ys qs ps
 apart : b < lo ∨ hi <= b
 atB : s <= b
 atL : s <= lo
section
variable {s b lo hi ci c cm : Nat} {rm z op st : Int} {ys : List Hd} {qs : List Sq} {ps : List Pl} {ai a am : Option Addr} {w w' : World}
theorem VarK.lt (h : VarK s b lo hi rm ys z qs ps op st ai ci a c am cm w) : b < w.heap.size := (Array.getElem?_eq_some_iff.1 h.var).1
theorem VarK.on (h : VarK s b lo hi rm ys z qs ps op st ai ci a c am cm w) (hb : Below w.heap.size w w') : VarK s b lo hi rm ys z qs ps op st ai ci a c am cm w' := ⟨block_on h.var hb,h.rd.later hb h.rd.hi_le,h.apart,h.atB,h.atL⟩
theorem VarK.aside (h : VarK s b lo hi rm ys z qs ps op st ai ci a c am cm w) {l r : Nat} (hb : Aside l r w w') (h1 : b < l ∨ r <= b) (h2 : r <= lo ∨ hi <= l) : VarK s b lo hi rm ys z qs ps op st ai ci a c am cm w' :=
 ⟨(hb.block b h.lt h1).trans h.var,h.rd.aside hb h2,h.apart,h.atB,h.atL⟩
theorem VarK.cells (h : VarK s b lo hi rm ys z qs ps op st ai ci a c am cm w) : w.cell? ⟨b,0,none⟩ = some (.int .i64 rm) ∧ w.cell? ⟨b,1,none⟩ = some (.slice ai ys.length ci) ∧ w.cell? ⟨b,2,none⟩ = some (.int .i64 z) ∧ w.cell? ⟨b,3,none⟩ = some (.slice a qs.length c) ∧ w.cell? ⟨b,4,none⟩ = some (.slice am ps.length cm) ∧ w.cell? ⟨b,5,none⟩ = some (.int .i64 op) ∧ w.cell? ⟨b,6,none⟩ = some (.int .i64 st) := seven_cells h.var
theorem VarK.hi_le (h : VarK s b lo hi rm ys z qs ps op st ai ci a c am cm w) : hi <= w.heap.size := h.rd.hi_le
end
end Go.Proofs.YtgjoepdfhadmcaaGreatDoor
end

