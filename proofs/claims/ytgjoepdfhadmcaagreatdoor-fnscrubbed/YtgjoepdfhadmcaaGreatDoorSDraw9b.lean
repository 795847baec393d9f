/- . -/
import Derived.Test.YtgjoepdfhadmcaaGreatDoorSFtlMath
import Derived.Test.YtgjoepdfhadmcaaGreatDoorSLawBase
import Derived.Deep.RegionWith
import Derived.Deep.RegionHeld3
namespace Go.Proofs.YtgjoepdfhadmcaaGreatDoor
open Go.RowKit
set_option linter.unusedVariables false
set_option linter.unusedSimpArgs false
set_option maxRecDepth 20000
theorem Squares.wideLo {lo lo' hi n : Nat} {w : World} {a : Option Addr} {qs : List Sq} (h : Squares lo hi w a n qs) (h1 : lo' <= lo) (h2 : hi <= w.heap.size) : Squares lo' w.heap.size w a n qs := by
 obtain ⟨hl,A,C,hx,ht⟩ := h
 exact ⟨hl,A,C,reads_wide hx h1 h2 (Nat.le_refl _),fun i hi => ⟨(ht i hi).1,reads_wide (ht i hi).2 h1 h2 (Nat.le_refl _)⟩⟩
structure Drawn9 (B : Nat) (w : World) (a : Option Addr) (n c : Nat) (qs : List Sq) (am : Option Addr) (m cm : Nat) (ps : List Pl) : Prop where
 n13 : n <= 13
 nc : n <= c
 fits : ∀ x ∈ qs,sqFits x
 len9 : ∀ x ∈ qs,x.1.length <= 9
 sq : Squares B w.heap.size w a n qs
 m200 : m <= 200
 mc : m <= cm
 pl : Places B w.heap.size w am m ps
theorem Places.asideP {lo hi n : Nat} {w w' : World} {a : Option Addr} {ps : List Pl} (h : Places lo hi w a n ps) {l r : Nat} (hb : Aside l r w w') (hB : hi <= l ∨ r <= lo) : Places lo hi w' a n ps := ⟨h.1,h.2.aside hb hB⟩
theorem Places.wide2 {lo lo' hi n : Nat} {w : World} {a : Option Addr} {ps : List Pl} (h : Places lo hi w a n ps) (h1 : lo' <= lo) (h2 : hi <= w.heap.size) : Places lo' w.heap.size w a n ps := ⟨h.1,reads_wide h.2 h1 h2 (Nat.le_refl _)⟩
theorem Drawn9.set {B : Nat} {w w' : World} {a : Option Addr} {n c : Nat} {qs : List Sq} {am : Option Addr} {m cm : Nat} {ps : List Pl} (h : Drawn9 B w a n c qs am m cm ps) {l r B' : Nat} (hb : Aside l r w w') (hr : r <= B) (h1 : B' <= B) : Drawn9 B' w' a n c qs am m cm ps :=
 ⟨h.n13,h.nc,h.fits,h.len9,(h.sq.aside hb (.inr hr)).wideLo h1 hb.size,h.m200,h.mc,(h.pl.asideP hb (.inr hr)).wide2 h1 hb.size⟩
theorem Drawn9.later {B : Nat} {w w' : World} {a : Option Addr} {n c : Nat} {qs : List Sq} {am : Option Addr} {m cm : Nat} {ps : List Pl} (h : Drawn9 B w a n c qs am m cm ps) (hb : Below w.heap.size w w') : Drawn9 B w' a n c qs am m cm ps :=
 ⟨h.n13,h.nc,h.fits,h.len9,(h.sq.later hb (Nat.le_refl _)).wideLo (Nat.le_refl _) hb.size,h.m200,h.mc,(h.pl.later hb (Nat.le_refl _)).wide2 (Nat.le_refl _) hb.size⟩
end Go.Proofs.YtgjoepdfhadmcaaGreatDoor
