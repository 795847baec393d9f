/- Several texts in one: FtlSpecD, FtlSpecE, FtlSpecF, FtlSpecG, Draw9, Draw9b. -/
import Derived.Test.YtgjoepdfhadmcaaGreatDoorFFtlMath
import Derived.Test.YtgjoepdfhadmcaaGreatDoorFChipCutS
import Derived.Test.YtgjoepdfhadmcaaGreatDoorFChipGrow
import Derived.Deep.RegionWith
import Derived.Deep.DeepCutAuto
import Derived.Test.YtgjoepdfhadmcaaGreatDoorFQuietTail
import Derived.BigRegion
import Derived.BigQuiet
import Derived.Test.YtgjoepdfhadmcaaGreatDoorFPageMath
import Derived.Test.YtgjoepdfhadmcaaGreatDoorFPageBase
import Derived.Test.YtgjoepdfhadmcaaGreatDoorFWeaveSpec
import Derived.Deep.RegionHeld3
import Derived.Test.YtgjoepdfhadmcaaGreatDoorFDraw7
import Derived.Test.YtgjoepdfhadmcaaGreatDoorFChipOwn2
import Derived.Test.YtgjoepdfhadmcaaGreatDoorFDrawBase
section
namespace Go.Proofs.YtgjoepdfhadmcaaGreatDoor
open Go.RowKit
set_option linter.unusedVariables false
set_option maxRecDepth 20000
structure FtlAt (B : Nat) (w : World) (px pj : Nat) (z st : Int) (n g c gm cm : Nat) (A : Nat -> Option Addr) (C : Nat -> Nat) (V : Value) (s : Kp) : Prop where
 mem : KpMem B w n g gm cm A C V s
 ftl : w.heap[px]? = some (.cells #[.int .i64 z,.slice (some ⟨g,0,none⟩) n c,.slice (some ⟨gm,0,none⟩) s.ps.length cm,.int .i64 s.op,.int .i64 st] 29)
 jobs : w.heap[pj]? = some (.cells #[V] 91)
 nx : px ≠ g
 nj : pj ≠ g
 bx : B <= px
 bj : B <= pj
theorem FtlAt.later {B px pj n g c gm cm : Nat} {w w' : World} {z st : Int} {A : Nat -> Option Addr} {C : Nat -> Nat} {V : Value} {s : Kp} (h : FtlAt B w px pj z st n g c gm cm A C V s) (hb : Below w.heap.size w w') : FtlAt B w' px pj z st n g c gm cm A C V s :=
 ⟨h.mem.later hb,block_on h.ftl hb,block_on h.jobs hb,h.nx,h.nj,h.bx,h.bj⟩
end Go.Proofs.YtgjoepdfhadmcaaGreatDoor
end

section
namespace Go.Proofs.YtgjoepdfhadmcaaGreatDoor
open Go.RowKit
set_option linter.unusedVariables false
set_option maxRecDepth 20000
theorem FtlAt.apart {B px pj n g c gm cm : Nat} {w : World} {z st : Int} {A : Nat -> Option Addr} {C : Nat -> Nat} {V : Value} {s : Kp} (h : FtlAt B w px pj z st n g c gm cm A C V s) : gm ≠ px ∧ gm ≠ pj ∧ px ≠ pj := by
 obtain ⟨cs,fz,hk⟩ := h.mem.kind
 refine ⟨fun e => ?_,fun e => ?_,fun e => ?_⟩
 ·rw [e,h.ftl] at hk
  simp only [Option.some.injEq,Obj.cells.injEq] at hk
  exact absurd hk.2.1 (by decide)
 ·rw [e,h.jobs] at hk
  simp only [Option.some.injEq,Obj.cells.injEq] at hk
  exact absurd hk.2.1 (by decide)
 ·have := h.ftl
  rw [e,h.jobs] at this
  simp only [Option.some.injEq,Obj.cells.injEq] at this
  exact absurd this.2.1 (by decide)
theorem FtlAt.led {B px pj n g c gm cm : Nat} {w : World} {z st : Int} {A : Nat -> Option Addr} {C : Nat -> Nat} {V : Value} {s : Kp} (h : FtlAt B w px pj z st n g c gm cm A C V s) {i : Nat} (hi : i < s.ps.length) (x : Pl) :
  FtlAt B ((w.setCell ⟨gm,i * 2,none⟩ (.int .i64 x.1)).setCell ⟨gm,i * 2 + 1,none⟩ (.int .i64 x.2)) px pj z st n g c gm cm A C V ⟨s.qs,s.ps.set i x,s.op,s.js⟩ := by
 obtain ⟨h1,h2,h3⟩ := h.apart
 refine ⟨h.mem.led hi x,?_,set_other (set_other h.jobs h2 _) h2 _,h.nx,h.nj,h.bx,h.bj⟩
 dsimp only
 rw [List.length_set]
 exact set_other (set_other h.ftl h1 _) h1 _
theorem FtlAt.bound {B px pj n g c gm cm : Nat} {w : World} {z st : Int} {A : Nat -> Option Addr} {C : Nat -> Nat} {V : Value} {s : Kp} (h : FtlAt B w px pj z st n g c gm cm A C V s) : px < w.heap.size ∧ pj < w.heap.size ∧ g < w.heap.size ∧ gm < w.heap.size ∧ B <= gm ∧ B <= g := by
 obtain ⟨cs,fz,hk⟩ := h.mem.kind
 exact ⟨(Array.getElem?_eq_some_iff.1 h.ftl).1,(Array.getElem?_eq_some_iff.1 h.jobs).1,by have := h.mem.sq.row.1; omega,(Array.getElem?_eq_some_iff.1 hk).1,(World.ownsRow.lt h.mem.pl gm rfl).1,h.mem.sq.atG⟩
end Go.Proofs.YtgjoepdfhadmcaaGreatDoor
end

section
namespace Go.Proofs.YtgjoepdfhadmcaaGreatDoor
open Go.RowKit
set_option linter.unusedVariables false
set_option maxRecDepth 20000
theorem FtlAt.opened {B px pj n g c gm cm : Nat} {w : World} {z st : Int} {A : Nat -> Option Addr} {C : Nat -> Nat} {V : Value} {s : Kp} (h : FtlAt B w px pj z st n g c gm cm A C V s) (o : Int) :
  FtlAt B (w.setCell ⟨px,3,none⟩ (.int .i64 o)) px pj z st n g c gm cm A C V (withOp s o) := by
 obtain ⟨h1,h2,h3⟩ := h.apart
 have hm := h.mem.set (o := 3) (.int .i64 o) h.nx h.ftl (by decide) (by decide) (by decide)
 exact ⟨⟨hm.sq,hm.pl,hm.jb,hm.ne,hm.nj⟩,set_block h.ftl 3 _ (by simp),set_other h.jobs h3 _,h.nx,h.nj,h.bx,h.bj⟩
end Go.Proofs.YtgjoepdfhadmcaaGreatDoor
end

section
namespace Go.Proofs.YtgjoepdfhadmcaaGreatDoor
open Go.RowKit
set_option linter.unusedVariables false
set_option maxRecDepth 20000
theorem FtlAt.stamped {B px pj n g c gm cm : Nat} {w : World} {z st : Int} {A : Nat -> Option Addr} {C : Nat -> Nat} {V : Value} {s : Kp} (h : FtlAt B w px pj z st n g c gm cm A C V s) (o : Int) :
  FtlAt B (w.setCell ⟨px,4,none⟩ (.int .i64 o)) px pj z o n g c gm cm A C V s := by
 obtain ⟨h1,h2,h3⟩ := h.apart
 have hm := h.mem.set (o := 4) (.int .i64 o) h.nx h.ftl (by decide) (by decide) (by decide)
 exact ⟨⟨hm.sq,hm.pl,hm.jb,hm.ne,hm.nj⟩,set_block h.ftl 4 _ (by simp),set_other h.jobs h3 _,h.nx,h.nj,h.bx,h.bj⟩
end Go.Proofs.YtgjoepdfhadmcaaGreatDoor
end

section
namespace Go.Proofs.YtgjoepdfhadmcaaGreatDoor
open Go.RowKit
set_option linter.unusedVariables false
set_option linter.unusedSimpArgs false
set_option maxRecDepth 20000
structure MapAt (w0 : World) (B p : Nat) (w : World) (v : Value) (ps : List Pl) : Prop where
 own : PlOwn B w v ps
 cur : Cur w p
 aside : Aside p (p + 1) w0 w
 size : B <= w.heap.size
theorem MapAt.next {w0 w w' : World} {B p : Nat} {v : Value} {ps : List Pl} (h : MapAt w0 B p w v ps) (hp : p < B) (hc : Cur w' p) (hs : Aside p (p + 1) w w') : MapAt w0 B p w' v ps :=
 ⟨own_aside2 h.own hs (by omega),hc,h.aside.trans hs,Nat.le_trans h.size hs.size⟩
end Go.Proofs.YtgjoepdfhadmcaaGreatDoor
end

section
namespace Go.Proofs.YtgjoepdfhadmcaaGreatDoor
open Go.RowKit
set_option linter.unusedVariables false
set_option linter.unusedSimpArgs false
set_option maxRecDepth 20000
theorem Squares.wideLo {lo lo' hi n : Nat} {w : World} {a : Option Addr} {qs : List Sq} (h : Squares lo hi w a n qs) (h1 : lo' <= lo) (h2 : hi <= w.heap.size) : Squares lo' w.heap.size w a n qs := by
 obtain ⟨hl,A,C,hx,ht⟩ := h
 exact ⟨hl,A,C,reads_wide hx h1 h2 (Nat.le_refl _),fun i hi => ⟨(ht i hi).1,reads_wide (ht i hi).2 h1 h2 (Nat.le_refl _)⟩⟩
structure Drawn9 (B : Nat) (w : World) (a : Option Addr) (n c : Nat) (qs : List Sq) (am : Option Addr) (m cm : Nat) (ps : List Pl) : Prop where
 n13 : n <= 13
 nc : n <= c
 fits : ∀ x ∈ qs,sqFits x
 len9 : ∀ x ∈ qs,x.1.length <= 9
 sq : Squares B w.heap.size w a n qs
 m200 : m <= 200
 mc : m <= cm
 pl : Places B w.heap.size w am m ps
theorem Places.asideP {lo hi n : Nat} {w w' : World} {a : Option Addr} {ps : List Pl} (h : Places lo hi w a n ps) {l r : Nat} (hb : Aside l r w w') (hB : hi <= l ∨ r <= lo) : Places lo hi w' a n ps := ⟨h.1,h.2.aside hb hB⟩
theorem Places.wide2 {lo lo' hi n : Nat} {w : World} {a : Option Addr} {ps : List Pl} (h : Places lo hi w a n ps) (h1 : lo' <= lo) (h2 : hi <= w.heap.size) : Places lo' w.heap.size w a n ps := ⟨h.1,reads_wide h.2 h1 h2 (Nat.le_refl _)⟩
theorem Drawn9.set {B : Nat} {w w' : World} {a : Option Addr} {n c : Nat} {qs : List Sq} {am : Option Addr} {m cm : Nat} {ps : List Pl} (h : Drawn9 B w a n c qs am m cm ps) {l r B' : Nat} (hb : Aside l r w w') (hr : r <= B) (h1 : B' <= B) : Drawn9 B' w' a n c qs am m cm ps :=
 ⟨h.n13,h.nc,h.fits,h.len9,(h.sq.aside hb (.inr hr)).wideLo h1 hb.size,h.m200,h.mc,(h.pl.asideP hb (.inr hr)).wide2 h1 hb.size⟩
theorem Drawn9.later {B : Nat} {w w' : World} {a : Option Addr} {n c : Nat} {qs : List Sq} {am : Option Addr} {m cm : Nat} {ps : List Pl} (h : Drawn9 B w a n c qs am m cm ps) (hb : Below w.heap.size w w') : Drawn9 B w' a n c qs am m cm ps :=
 ⟨h.n13,h.nc,h.fits,h.len9,(h.sq.later hb (Nat.le_refl _)).wideLo (Nat.le_refl _) hb.size,h.m200,h.mc,(h.pl.later hb (Nat.le_refl _)).wide2 (Nat.le_refl _) hb.size⟩
end Go.Proofs.YtgjoepdfhadmcaaGreatDoor
end

