/- Several texts in one: Draw12e, Draw10d, Draw12f, EnteredW. -/
import Derived.Test.YtgjoepdfhadmcaaGreatDoorFDraw12
import Derived.Test.YtgjoepdfhadmcaaGreatDoorFDraw10
import Derived.Test.YtgjoepdfhadmcaaGreatDoorFFtlOwnP
import Derived.Deep.RegionWith
import Derived.Deep.DeepCutAuto
import Derived.Test.YtgjoepdfhadmcaaGreatDoorFDraw7
import Derived.Test.YtgjoepdfhadmcaaGreatDoorFChipGrow
import Derived.Test.YtgjoepdfhadmcaaGreatDoorFChipOwn2
import Derived.Test.YtgjoepdfhadmcaaGreatDoorFFtlSpecD
import Derived.Test.YtgjoepdfhadmcaaGreatDoorFWeaveSpec
import Derived.Test.YtgjoepdfhadmcaaGreatDoorFDrawBase
import Derived.Test.YtgjoepdfhadmcaaGreatDoorFCopyBase
import Derived.Deep.RegionHeld3
import Derived.Test.YtgjoepdfhadmcaaGreatDoorFFtlImplI
import Derived.Deep.RegionLaw
import Derived.Test.YtgjoepdfhadmcaaGreatDoorFChipCutS
import Derived.Test.YtgjoepdfhadmcaaGreatDoorFChipAns
import Derived.Test.YtgjoepdfhadmcaaGreatDoorFTextWalk
import Derived.Test.YtgjoepdfhadmcaaGreatDoorFFtlImplH
import Derived.Test.YtgjoepdfhadmcaaGreatDoorFFtlMath
import Derived.Test.YtgjoepdfhadmcaaGreatDoorFPageMath
import Derived.Test.YtgjoepdfhadmcaaGreatDoorFPageBase
import Derived.BigRegion
import Derived.Lib.QuietBelow
import Derived.BigQuiet
import Derived.Deep.QuietTactic
section
namespace Go.Proofs.YtgjoepdfhadmcaaGreatDoor
open Go.RowKit
set_option linter.unusedVariables false
set_option linter.unusedSimpArgs false
set_option maxRecDepth 20000
section
variable {lo ci cm : Nat} {w w' : World} {ai a am : Option Addr} {ys : List Hd} {qs : List Sq} {ps : List Pl}
theorem CGr.at_ (h : CGr lo w ai ci a am cm ys qs ps) : ∀ g,a = some ⟨g,0,none⟩ -> g < w.heap.size := by
 obtain ⟨_,⟨g,A,C,e,h2,_⟩,_⟩ := h
 intro g' e'
 rw [e] at e'
 simp only [Option.some.injEq,Addr.mk.injEq] at e'
 have := h2.row.1
 omega
theorem CGr.store (h : CGr lo w ai ci a am cm ys qs ps) {b : Nat} {cs : Array Value} {fr : Nat × Nat} (hb : w.heap[b]? = some (.cells cs 65 fr)) (hg : ∀ g,a = some ⟨g,0,none⟩ -> g ≠ b) (j : Nat) (v : Value) : CGr lo (w.setCell ⟨b,j,none⟩ v) ai ci a am cm ys qs ps := by
 obtain ⟨h1,⟨g,A,C,e,h2,h3⟩,⟨gm,e2,h4⟩⟩ := h
 have hgr := grown_set w ⟨b,j,none⟩ v
 refine ⟨own_keepBy h1 hgr (fun k e => ?_),⟨g,A,C,e,h2.keep hgr (fun e' => hg g e (by simpa using e'.symm)) (fun k e => ?_),h3⟩,⟨gm,e2,own_keepBy h4 hgr (fun k e => ?_)⟩⟩
 ·simp only [Option.some.injEq] at e; subst e; exact ⟨_,_,_,hb,by decide⟩
 ·simp only [Option.some.injEq] at e; subst e; exact ⟨_,_,_,hb,by decide⟩
 ·simp only [Option.some.injEq] at e; subst e; exact ⟨_,_,_,hb,by decide⟩
structure KeptK (lo : Nat) (w w' : World) : Prop where
 os : w'.os = w.os
 tape : w'.tape = w.tape
 output : w'.output = w.output
 size : w.heap.size <= w'.heap.size
 low : ∀ k,k < w.heap.size -> k < lo -> w'.heap[k]? = w.heap[k]?
 other : ∀ (k : Nat) (cs : Array Value) (T : TypeId) (fr : Nat × Nat),T ≠ 83 -> w.heap[k]? = some (.cells cs T fr) -> w'.heap[k]? = some (.cells cs T fr)
theorem KeptK.aside (h : KeptK lo w w') : Aside lo w.heap.size w w' := ⟨h.os,h.tape,h.output,h.size,fun k hk hk' => h.low k hk (by omega)⟩
end
end Go.Proofs.YtgjoepdfhadmcaaGreatDoor
end

section
namespace Go.Proofs.YtgjoepdfhadmcaaGreatDoor
open Go.RowKit
set_option linter.unusedVariables false
set_option linter.unusedSimpArgs false
set_option maxRecDepth 20000
structure FtlIn (B : Nat) (w : World) (f : Fv) (a : Option Addr) (n c : Nat) (am : Option Addr) (m cm : Nat) : Prop where
 n13 : n <= 13
 fits : ∀ x ∈ f.qs,sqFits x
 sq : Squares B w.heap.size w a n f.qs
 pl : Places B w.heap.size w am m f.ps
 m200 : m <= 200
 mc : m <= cm
section
variable {B : Nat} {w w' : World} {f : Fv} {a : Option Addr} {n c : Nat} {am : Option Addr} {m cm : Nat}
theorem FtlIn.set (h : FtlIn B w f a n c am m cm) {l r B' : Nat} (hb : Aside l r w w') (hr : r <= B) (h1 : B' <= B) : FtlIn B' w' f a n c am m cm :=
 ⟨h.n13,h.fits,(h.sq.aside hb (.inr hr)).wideLo h1 hb.size,(h.pl.asideP hb (.inr hr)).wide2 h1 hb.size,h.m200,h.mc⟩
theorem FtlIn.later (h : FtlIn B w f a n c am m cm) (hb : Below w.heap.size w w') : FtlIn B w' f a n c am m cm :=
 ⟨h.n13,h.fits,(h.sq.later hb (Nat.le_refl _)).wideLo (Nat.le_refl _) hb.size,(h.pl.later hb (Nat.le_refl _)).wide2 (Nat.le_refl _) hb.size,h.m200,h.mc⟩
end
end Go.Proofs.YtgjoepdfhadmcaaGreatDoor
end

section
namespace Go.Proofs.YtgjoepdfhadmcaaGreatDoor
open Go.RowKit
set_option linter.unusedVariables false
set_option linter.unusedSimpArgs false
set_option maxRecDepth 20000
structure CacheIn (B : Nat) (w : World) (c : Cv) (ai : Option Addr) (a am : Option Addr) (cm : Nat) : Prop where
 y20 : c.ys.length <= 20
 yfits : ∀ x ∈ c.ys,hdFits x
 n13 : c.f.qs.length <= 13
 fits : ∀ x ∈ c.f.qs,sqFits x
 m200 : c.f.ps.length <= 200
 mc : c.f.ps.length <= cm
 rd : CRd B w.heap.size w ai a am c.ys c.f.qs c.f.ps
section
variable {B : Nat} {w w' : World} {c : Cv} {ai a am : Option Addr} {cm : Nat}
theorem CacheIn.set (h : CacheIn B w c ai a am cm) {l r B' : Nat} (hb : Aside l r w w') (hr : r <= B) (h1 : B' <= B) : CacheIn B' w' c ai a am cm :=
 ⟨h.y20,h.yfits,h.n13,h.fits,h.m200,h.mc,(h.rd.aside hb (.inl hr)).wide h1 hb.size (Nat.le_refl _)⟩
theorem CacheIn.later (h : CacheIn B w c ai a am cm) (hb : Below w.heap.size w w') : CacheIn B w' c ai a am cm :=
 ⟨h.y20,h.yfits,h.n13,h.fits,h.m200,h.mc,(h.rd.later hb (Nat.le_refl _)).wide (Nat.le_refl _) hb.size (Nat.le_refl _)⟩
end
end Go.Proofs.YtgjoepdfhadmcaaGreatDoor
end

section
namespace Go.Proofs.YtgjoepdfhadmcaaGreatDoor
open Go.RowKit
set_option linter.unusedVariables false
set_option linter.unusedSimpArgs false
set_option maxRecDepth 20000
theorem cell_ltE {w : World} {b o : Nat} {v : Value} (h : w.cell? ⟨b,o,none⟩ = some v) : b < w.heap.size := by
 rcases Nat.lt_or_ge b w.heap.size with hc | hc
 ·exact hc
 ·unfold World.cell? at h
  have : w.heap[b]? = none := Array.getElem?_eq_none_iff.2 (by omega)
  simp [this] at h
structure FSt (b : Nat) (f : Fv) (a : Option Addr) (n c : Nat) (am : Option Addr) (m cm : Nat) (w : World) : Prop where
 k : w.heap[b]? = some (.cells #[.int .i64 f.z,.slice a n c,.slice am m cm,.int .i64 f.op,.int .i64 f.st] 29)
 n1 : n <= 1048576
 fits : ∀ y ∈ f.qs,sqFits y
 sq : Squares 0 w.heap.size w a n f.qs
 pl : Places 0 w.heap.size w am m f.ps
 m1 : m <= 1048576
 mc : m <= cm
section
variable {b : Nat} {f : Fv} {a : Option Addr} {n c : Nat} {am : Option Addr} {m cm : Nat} {w w' : World}
theorem FSt.on (h : FSt b f a n c am m cm w) (hb : Below w.heap.size w w') : FSt b f a n c am m cm w' :=
 ⟨block_on h.k hb,h.n1,h.fits,(h.sq.later hb (Nat.le_refl _)).wideLo (Nat.le_refl _) hb.size,(h.pl.later hb (Nat.le_refl _)).wide2 (Nat.le_refl _) hb.size,h.m1,h.mc⟩
theorem fst_own {lo hi : Nat} (h : FtlOwn lo hi w a am f.qs f.ps) (hf : ∀ y ∈ f.qs,sqFits y) (hq : f.qs.length <= 1048576) (hp : f.ps.length <= 1048576) (hc : f.ps.length <= cm) (hb : Below w.heap.size w w') (hk : w'.heap[b]? = some (.cells #[.int .i64 f.z,.slice a f.qs.length c,.slice am f.ps.length cm,.int .i64 f.op,.int .i64 f.st] 29)) : FSt b f a f.qs.length c am f.ps.length cm w' :=
 ⟨hk,hq,hf,(h.squares.later hb h.1).wideLo (Nat.zero_le _) (Nat.le_trans h.1 hb.size),(h.places.later hb h.1).wide2 (Nat.zero_le _) (Nat.le_trans h.1 hb.size),hp,hc⟩
end
end Go.Proofs.YtgjoepdfhadmcaaGreatDoor
end

