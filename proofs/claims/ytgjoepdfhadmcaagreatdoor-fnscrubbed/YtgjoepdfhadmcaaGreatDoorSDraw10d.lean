/- Several texts in one: Draw10d, EnteredW, DrawScrub, ScrubW. -/
import Derived.Test.YtgjoepdfhadmcaaGreatDoorSDraw10c
import Derived.Test.YtgjoepdfhadmcaaGreatDoorSDraw9b
import Derived.Test.YtgjoepdfhadmcaaGreatDoorSMountSpec2
import Derived.Test.YtgjoepdfhadmcaaGreatDoorSChipCutS
import Derived.Test.YtgjoepdfhadmcaaGreatDoorSChipAns
import Derived.Test.YtgjoepdfhadmcaaGreatDoorSFtlImplI
import Derived.Test.YtgjoepdfhadmcaaGreatDoorSFtlImplA
import Derived.Test.YtgjoepdfhadmcaaGreatDoorSFtlSpecH
import Derived.Test.YtgjoepdfhadmcaaGreatDoorSFtlMath
import Derived.Test.YtgjoepdfhadmcaaGreatDoorSLawBase
import Derived.Deep.RegionHeld3
import Derived.Test.YtgjoepdfhadmcaaGreatDoorSFtlOwnP
import Derived.Test.YtgjoepdfhadmcaaGreatDoorSFtlImplD
import Derived.Test.YtgjoepdfhadmcaaGreatDoorSDraw4
import Derived.Test.YtgjoepdfhadmcaaGreatDoorSChipGrow
import Derived.Test.YtgjoepdfhadmcaaGreatDoorSChipOwn2
import Derived.Test.YtgjoepdfhadmcaaGreatDoorSPageMath
section
namespace Go.Proofs.YtgjoepdfhadmcaaGreatDoor
open Go.RowKit
set_option linter.unusedVariables false
set_option linter.unusedSimpArgs false
set_option maxRecDepth 20000
structure FtlIn (B : Nat) (w : World) (f : Fv) (a : Option Addr) (n c : Nat) (am : Option Addr) (m cm : Nat) : Prop where
 n13 : n <= 13
 fits : ∀ x ∈ f.qs,sqFits x
 sq : Squares B w.heap.size w a n f.qs
 pl : Places B w.heap.size w am m f.ps
 m200 : m <= 200
 mc : m <= cm
section
variable {B : Nat} {w w' : World} {f : Fv} {a : Option Addr} {n c : Nat} {am : Option Addr} {m cm : Nat}
theorem FtlIn.set (h : FtlIn B w f a n c am m cm) {l r B' : Nat} (hb : Aside l r w w') (hr : r <= B) (h1 : B' <= B) : FtlIn B' w' f a n c am m cm :=
 ⟨h.n13,h.fits,(h.sq.aside hb (.inr hr)).wideLo h1 hb.size,(h.pl.asideP hb (.inr hr)).wide2 h1 hb.size,h.m200,h.mc⟩
theorem FtlIn.later (h : FtlIn B w f a n c am m cm) (hb : Below w.heap.size w w') : FtlIn B w' f a n c am m cm :=
 ⟨h.n13,h.fits,(h.sq.later hb (Nat.le_refl _)).wideLo (Nat.le_refl _) hb.size,(h.pl.later hb (Nat.le_refl _)).wide2 (Nat.le_refl _) hb.size,h.m200,h.mc⟩
end
end Go.Proofs.YtgjoepdfhadmcaaGreatDoor
end

section
namespace Go.Proofs.YtgjoepdfhadmcaaGreatDoor
open Go.RowKit
set_option linter.unusedVariables false
set_option linter.unusedSimpArgs false
set_option maxRecDepth 20000
theorem cell_ltE {w : World} {b o : Nat} {v : Value} (h : w.cell? ⟨b,o,none⟩ = some v) : b < w.heap.size := by
 rcases Nat.lt_or_ge b w.heap.size with hc | hc
 ·exact hc
 ·unfold World.cell? at h
  have : w.heap[b]? = none := Array.getElem?_eq_none_iff.2 (by omega)
  simp [this] at h
structure FSt (b : Nat) (f : Fv) (a : Option Addr) (n c : Nat) (am : Option Addr) (m cm : Nat) (w : World) : Prop where
 k : w.heap[b]? = some (.cells #[.int .i64 f.z,.slice a n c,.slice am m cm,.int .i64 f.op,.int .i64 f.st] 29)
 n1 : n <= 1048576
 fits : ∀ y ∈ f.qs,sqFits y
 sq : Squares 0 w.heap.size w a n f.qs
 pl : Places 0 w.heap.size w am m f.ps
 m1 : m <= 1048576
 mc : m <= cm
section
variable {b : Nat} {f : Fv} {a : Option Addr} {n c : Nat} {am : Option Addr} {m cm : Nat} {w w' : World}
theorem FSt.on (h : FSt b f a n c am m cm w) (hb : Below w.heap.size w w') : FSt b f a n c am m cm w' :=
 ⟨block_on h.k hb,h.n1,h.fits,(h.sq.later hb (Nat.le_refl _)).wideLo (Nat.le_refl _) hb.size,(h.pl.later hb (Nat.le_refl _)).wide2 (Nat.le_refl _) hb.size,h.m1,h.mc⟩
theorem fst_in {B : Nat} (h : FtlIn B w f a n c am m cm) (hb : Below w.heap.size w w') (hk : w'.heap[b]? = some (.cells #[.int .i64 f.z,.slice a n c,.slice am m cm,.int .i64 f.op,.int .i64 f.st] 29)) : FSt b f a n c am m cm w' :=
 ⟨hk,by have := h.n13; omega,h.fits,(h.sq.later hb (Nat.le_refl _)).wideLo (Nat.zero_le _) hb.size,(h.pl.later hb (Nat.le_refl _)).wide2 (Nat.zero_le _) hb.size,by have := h.m200; omega,h.mc⟩
theorem fst_own {lo hi : Nat} (h : FtlOwn lo hi w a am f.qs f.ps) (hf : ∀ y ∈ f.qs,sqFits y) (hq : f.qs.length <= 1048576) (hp : f.ps.length <= 1048576) (hc : f.ps.length <= cm) (hb : Below w.heap.size w w') (hk : w'.heap[b]? = some (.cells #[.int .i64 f.z,.slice a f.qs.length c,.slice am f.ps.length cm,.int .i64 f.op,.int .i64 f.st] 29)) : FSt b f a f.qs.length c am f.ps.length cm w' :=
 ⟨hk,hq,hf,(h.squares.later hb h.1).wideLo (Nat.zero_le _) (Nat.le_trans h.1 hb.size),(h.places.later hb h.1).wide2 (Nat.zero_le _) (Nat.le_trans h.1 hb.size),hp,hc⟩
end
theorem zero_squares (w : World) : Squares 0 w.heap.size w none 0 [] := ⟨rfl,fun _ => none,fun _ => 0,⟨Nat.le_refl _,fun h => absurd h (by omega)⟩,fun i hi => absurd hi (by omega)⟩
theorem zero_places (w : World) : Places 0 w.heap.size w none 0 [] := ⟨rfl,⟨Nat.le_refl _,fun h => absurd h (by omega)⟩⟩
end Go.Proofs.YtgjoepdfhadmcaaGreatDoor
end

section
namespace Go.Proofs.YtgjoepdfhadmcaaGreatDoor
open Go.RowKit
set_option linter.unusedVariables false
set_option linter.unusedSimpArgs false
set_option maxRecDepth 20000
def RotOf (w : World) (e : Ending) (w' : World) : Prop := ∃ (f : Fv) (a : Option Addr) (n c : Nat) (am : Option Addr) (m cm : Nat),e = .returned (.agg #[.int .i64 f.z,.slice a n c,.slice am m cm,.int .i64 f.op,.int .i64 f.st]) ∧ FtlIn w.heap.size w' f a n c am m cm ∧ Below w.heap.size w w'
set_option maxHeartbeats 3200000 in
theorem drawRotten_any (hd : JobDraws) (a : Option Addr) (n cap : Nat) (l : List UInt8) (w : World) {lo hi : Nat} (hB : Bytes lo hi w a n l) (hhi : hi <= w.heap.size) (hn : n <= 4096) :
  Calls Tryz.prog 101 #[.slice a n cap] w (RotOf w) := by
 obtain ⟨wA,hwA⟩ : ∃ wA,wA = w.alloc zF := ⟨_,rfl⟩
 have hzA : wA.heap.size = w.heap.size + 1 := by rw [hwA]; simp
 have HBA : Hid (Below w.heap.size w wA) := by rw [hwA]; exact (Below.refl _ _).alloc (Nat.le_refl _) _
 have H1 : Hid (wA.heap[w.heap.size]? = some zF) := by rw [hwA]; exact heap_new _ _
 have HB := hide (hB.later HBA.out hhi)
 have HJD := hide hd
 clear hB hd
 go_enter Tryz.func101,Tryz.ntmps101
 go_wp2_with fail
 rw [<- hwA]
 clear hwA
 refine (l1New_any a n cap l wA HB.out hn).mono ?_
 rintro e w1 ⟨p,rfl,hp,c1,b1⟩
 have h1 := hide (block_on H1.out b1)
 have HB1 := hide (below_here HBA.out b1)
 have hs1 := b1.size
 clear b1 H1 HBA HB
 go_wp2_with fail
 refine (l1Once_any p 4 w1 c1 (by omega)).mono ?_
 rintro e w2 ⟨b2,rfl,c2',s2⟩
 have h2 := hide ((s2.block w.heap.size (by omega) (.inl (by omega))).trans h1.out)
 have HB2 := hide (HB1.out.trans (s2.below (B := w.heap.size) (by omega) (by omega)))
 have hs2 := s2.size
 have hpl := c2'.lt
 have HC2 := hide c2'
 clear s2 h1 HB1 c1 c2'
 cases b2 with
 | true =>
  go_wp2_with fail
  refine (l10DrawAny_any HJD.out p w2 HC2.out).mono ?_
  rintro e w3 ⟨z,qs,ps,op,st,a2,n2,c2,am,m,cm,rfl,hn2,hf,hsq,hpp,hm2,hmc,hcu,has⟩
  have h3 := hide ((has.block w.heap.size (by omega) (.inl (by omega))).trans h2.out)
  have HB3 := hide (HB2.out.trans (has.below (B := w.heap.size) (by omega) (by omega)))
  have HD3 : Hid (FtlIn (w2.heap.size + 1) w3 ⟨z,qs,ps,op,st⟩ a2 n2 c2 am m cm) := ⟨hn2,hf,hsq,hpp,hm2,hmc⟩
  have hs3 := has.size
  clear has hcu hsq hpp hf HC2 HB2 h2
  obtain ⟨z0,z1,z2,z3,z4⟩ := five_cells h3.out
  have f0 := four_frozen h3.out 0
  have f1 := four_frozen h3.out 1
  have f2 := four_frozen h3.out 2
  have f3 := four_frozen h3.out 3
  have f4 := four_frozen h3.out 4
  have HS9 := hide (five_set h3.out (.int .i64 z) (.slice a2 n2 c2) (.slice am m cm) (.int .i64 op) (.int .i64 st))
  have HA9 := hide (five_aside (b := w.heap.size) (Aside.refl w.heap.size (w.heap.size + 1) w3) (Nat.le_refl _) (Nat.lt_succ_self _) (.int .i64 z) (.slice a2 n2 c2) (.slice am m cm) (.int .i64 op) (.int .i64 st))
  go_wp2_with fail
  exact bodyPost_ret (results_cell rfl rfl (run_loadVar_row _ _ _ _ _ _ _ HS9.out Tryz.underlying29 rfl (by kernel_rfl))) rfl ⟨⟨z,qs,ps,op,st⟩,a2,n2,c2,am,m,cm,rfl,HD3.out.set HA9.out (by omega) (by omega),HB3.out.trans (HA9.out.below (Nat.le_refl _) (by omega))⟩
 | false =>
  go_wp2_with fail
  refine (l11DrawRot_any p w2 HC2.out).mono ?_
  rintro e w3 ⟨z,qs,ps,op,st,a2,n2,c2,am,m,cm,rfl,hn2,hf,hsq,hpp,hm2,hmc,hcu,has⟩
  have h3 := hide ((has.block w.heap.size (by omega) (.inl (by omega))).trans h2.out)
  have HB3 := hide (HB2.out.trans (has.below (B := w.heap.size) (by omega) (by omega)))
  have HD3 : Hid (FtlIn (w2.heap.size + 1) w3 ⟨z,qs,ps,op,st⟩ a2 n2 c2 am m cm) := ⟨hn2,hf,hsq,hpp,hm2,hmc⟩
  have hs3 := has.size
  clear has hcu hsq hpp hf HC2 HB2 h2
  obtain ⟨z0,z1,z2,z3,z4⟩ := five_cells h3.out
  have f0 := four_frozen h3.out 0
  have f1 := four_frozen h3.out 1
  have f2 := four_frozen h3.out 2
  have f3 := four_frozen h3.out 3
  have f4 := four_frozen h3.out 4
  have HS9 := hide (five_set h3.out (.int .i64 z) (.slice a2 n2 c2) (.slice am m cm) (.int .i64 op) (.int .i64 st))
  have HA9 := hide (five_aside (b := w.heap.size) (Aside.refl w.heap.size (w.heap.size + 1) w3) (Nat.le_refl _) (Nat.lt_succ_self _) (.int .i64 z) (.slice a2 n2 c2) (.slice am m cm) (.int .i64 op) (.int .i64 st))
  go_wp2_with fail
  exact bodyPost_ret (results_cell rfl rfl (run_loadVar_row _ _ _ _ _ _ _ HS9.out Tryz.underlying29 rfl (by kernel_rfl))) rfl ⟨⟨z,qs,ps,op,st⟩,a2,n2,c2,am,m,cm,rfl,HD3.out.set HA9.out (by omega) (by omega),HB3.out.trans (HA9.out.below (Nat.le_refl _) (by omega))⟩
set_option maxHeartbeats 3200000 in
theorem drawScrubbed_any (hd : JobDraws) (a : Option Addr) (n cap : Nat) (l : List UInt8) (w : World) {lo hi : Nat} (hB : Bytes lo hi w a n l) (hhi : hi <= w.heap.size) (hn : n <= 4096) :
  Calls Tryz.prog 29 #[.slice a n cap] w (RotOf w) := by
 obtain ⟨wA,hwA⟩ : ∃ wA,wA = w.alloc zF := ⟨_,rfl⟩
 have hzA : wA.heap.size = w.heap.size + 1 := by rw [hwA]; simp
 have HBA : Hid (Below w.heap.size w wA) := by rw [hwA]; exact (Below.refl _ _).alloc (Nat.le_refl _) _
 have H1 : Hid (wA.heap[w.heap.size]? = some zF) := by rw [hwA]; exact heap_new _ _
 have HB := hide (hB.later HBA.out hhi)
 have hhA : hi <= wA.heap.size := by omega
 clear hB
 go_enter Tryz.func29,Tryz.ntmps29
 go_wp2_with fail
 rw [<- hwA]
 clear hwA
 refine (drawRotten_any hd a n cap l wA HB.out hhA hn).mono ?_
 rintro e w3 ⟨⟨z,qs,ps,op,st⟩,a2,n2,c2,am,m,cm,rfl,hD,hb⟩
 have h3 := hide (block_on H1.out hb)
 have HB3 := hide (below_here HBA.out hb)
 have HD3 := hide hD
 have hs3 := hb.size
 clear hD hb HB H1 HBA
 obtain ⟨z0,z1,z2,z3,z4⟩ := five_cells h3.out
 have f0 := four_frozen h3.out 0
 have f1 := four_frozen h3.out 1
 have f2 := four_frozen h3.out 2
 have f3 := four_frozen h3.out 3
 have f4 := four_frozen h3.out 4
 have HS9 := hide (five_set h3.out (.int .i64 z) (.slice a2 n2 c2) (.slice am m cm) (.int .i64 op) (.int .i64 st))
 have HA9 := hide (five_aside (b := w.heap.size) (Aside.refl w.heap.size (w.heap.size + 1) w3) (Nat.le_refl _) (Nat.lt_succ_self _) (.int .i64 z) (.slice a2 n2 c2) (.slice am m cm) (.int .i64 op) (.int .i64 st))
 dsimp only
 go_wp2_with fail
 exact bodyPost_ret (results_cell rfl rfl (run_loadVar_row _ _ _ _ _ _ _ HS9.out Tryz.underlying29 rfl (by kernel_rfl))) rfl ⟨⟨z,qs,ps,op,st⟩,a2,n2,c2,am,m,cm,rfl,HD3.out.set HA9.out (by omega) (by omega),HB3.out.trans (HA9.out.below (Nat.le_refl _) (by omega))⟩
end Go.Proofs.YtgjoepdfhadmcaaGreatDoor
end

section
namespace Go.Proofs.YtgjoepdfhadmcaaGreatDoor
open Go.RowKit
set_option linter.unusedVariables false
set_option linter.unusedSimpArgs false
set_option maxRecDepth 20000
def rotI (f : Fv) : List Int := (rotV f).map (fun (i : Nat) => (i : Int))
theorem rotI_at {f : Fv} {k : Nat} (h : k < (rotV f).length) : (rotI f).getD k 0 = (((rotV f).getD k 0 : Nat) : Int) := by
 unfold rotI
 rw [List.getD_eq_getElem?_getD,List.getD_eq_getElem?_getD,List.getElem?_map,List.getElem?_eq_getElem h]
 rfl
theorem getD_small {qs : List Sq} {B : Nat} (h : ∀ x ∈ qs,∀ s ∈ x.1,s.size <= B) (i j : Nat) : ((sqAt qs i).1.getD j ByteArray.empty).size <= B := by
 by_cases hi : i < qs.length
 ·by_cases hj : j < (sqAt qs i).1.length
  ·exact h _ (sqAt_mem hi) _ (by rw [List.getD_eq_getElem?_getD,List.getElem?_eq_getElem hj]; exact List.getElem_mem hj)
  ·rw [List.getD_eq_getElem?_getD,List.getElem?_eq_none (by omega)]; simp
 ·have e : sqAt qs i = ([],0,false) := by unfold sqAt; rw [List.getD_eq_getElem?_getD,List.getElem?_eq_none (by omega)]; rfl
  rw [e]; simp
theorem rotV_len (f : Fv) : (rotV f).length <= 64 := rotF_len _ _ _ _ _
theorem Ints.onL {w w' : World} {a : Option Addr} {n : Nat} {l : List Int} (h : Ints 0 w.heap.size w a n l) (hb : Below w.heap.size w w') : Ints 0 w'.heap.size w' a n l := by
 obtain ⟨h1,h2⟩ := h.later hb (Nat.le_refl _)
 exact ⟨h1,reads_wide h2 (Nat.le_refl _) hb.size (Nat.le_refl _)⟩
section
variable {b : Nat} {f g : Fv} {a a' : Option Addr} {n c n' c' : Nat} {am am' : Option Addr} {m cm m' cm' b' : Nat} {w w' : World}
def RotA (w : World) (f : Fv) (e : Ending) (w' : World) : Prop := ∃ a9 c9,e = .returned (.slice a9 (rotV f).length c9) ∧ Ints 0 w'.heap.size w' a9 (rotV f).length (rotI f) ∧ Below w.heap.size w w'
theorem rotA_of {w w' : World} {f : Fv} {a9 : Option Addr} {c9 D : Nat} (h : w'.ownsRow D 2 1 (.slice a9 (rotV f).length c9) (rotV f).length (valN (rotV f))) (hb : Below w.heap.size w w') : RotA w f (.returned (.slice a9 (rotV f).length c9)) w' := by
 obtain ⟨a8,c8,e8,_,h8⟩ := own_valN h
 cases e8
 exact ⟨_,_,rfl,⟨h8.1,reads_wide h8.2.reads (Nat.zero_le _) (Nat.le_refl _) (Nat.le_refl _)⟩,hb⟩
theorem sRot (h : FSt b f a n c am m cm w) : Calls Tryz.prog 34 #[.agg #[.int .i64 f.z,.slice a n c,.slice am m cm,.int .i64 f.op,.int .i64 f.st]] w (RotA w f) := by
 refine (specRotten_any f.z a n c f.qs am m cm f.ps f.op f.st w h.sq (Nat.le_refl _) h.n1 h.fits h.pl (Nat.le_refl _) h.m1).mono ?_
 rintro e w' ⟨a9,c9,rfl,h1,h2,h3⟩
 exact rotA_of h2 h3
theorem iRot (h : FSt b f a n c am m cm w) (hT : Tab w) {aB aL aS aC aF : Addr} (E : Errs w aB aL aS aC aF) : Calls Tryz.prog 30 #[.agg #[.int .i64 f.z,.slice a n c,.slice am m cm,.int .i64 f.op,.int .i64 f.st]] w (RotA w f) := by
 refine (implRotten_any f.z a n c f.qs am m cm f.ps f.op f.st w h.sq (Nat.le_refl _) h.n1 h.fits h.pl (Nat.le_refl _) h.m1 h.mc hT E).mono ?_
 rintro e w' ⟨a9,c9,rfl,h1,h2,h3⟩
 exact rotA_of h2 h3
theorem sLike (h : FSt b f a n c am m cm w) (h' : FSt b' g a' n' c' am' m' cm' w) : Calls Tryz.prog 22 #[.agg #[.int .i64 f.z,.slice a n c,.slice am m cm,.int .i64 f.op,.int .i64 f.st],.agg #[.int .i64 g.z,.slice a' n' c',.slice am' m' cm',.int .i64 g.op,.int .i64 g.st]] w fun e w' => e = .returned (.bool (likeF f g)) ∧ Below w.heap.size w w' :=
 likeFtl_any f g a a' n c n' c' am am' m cm m' cm' w h.sq h'.sq (Nat.le_refl _) (Nat.le_refl _) h.n1 h'.n1 h.fits h'.fits h.pl h'.pl (Nat.le_refl _) (Nat.le_refl _) h.m1 h'.m1
theorem sLike0 (h : FSt b f a n c am m cm w) : Calls Tryz.prog 22 #[.agg #[.int .i64 f.z,.slice a n c,.slice am m cm,.int .i64 f.op,.int .i64 f.st],.agg #[.int .i64 0,.slice none 0 0,.slice none 0 0,.int .i64 0,.int .i64 0]] w fun e w' => e = .returned (.bool (likeF f ⟨0,[],[],0,0⟩)) ∧ Below w.heap.size w w' :=
 likeFtl_any f ⟨0,[],[],0,0⟩ a none n c 0 0 am none m cm 0 0 w h.sq (zero_squares w) (Nat.le_refl _) (Nat.le_refl _) h.n1 (by omega) h.fits (fun x hx => by simp at hx) h.pl (zero_places w) (Nat.le_refl _) (Nat.le_refl _) h.m1 (by omega)
theorem sScr (h : FSt b f a n c am m cm w) : Calls Tryz.prog 32 #[.agg #[.int .i64 f.z,.slice a n c,.slice am m cm,.int .i64 f.op,.int .i64 f.st]] w fun e w' => ∃ v,e = .returned (.tuple #[v,.bool (scrubB f)]) ∧ FtlAns w (scrubF f) v w' :=
 specScrubbed_any f.z a n c f.qs am m cm f.ps f.op f.st w h.sq (Nat.le_refl _) h.n1 h.fits h.pl (Nat.le_refl _) h.m1
theorem iScr (h : FSt b f a n c am m cm w) (hT : Tab w) {aB aL aS aC aF aN : Addr} (E : Errs w aB aL aS aC aF) (hN : w.cell? ⟨1,0,none⟩ = some (noRoomV aN)) : Calls Tryz.prog 31 #[.agg #[.int .i64 f.z,.slice a n c,.slice am m cm,.int .i64 f.op,.int .i64 f.st]] w fun e w' => ∃ v,e = .returned (.tuple #[v,.bool (scrubB f)]) ∧ FtlAns w (scrubF f) v w' :=
 implScrubbed_any f.z a n c f.qs am m cm f.ps f.op f.st w h.sq (Nat.le_refl _) h.n1 h.fits h.pl (Nat.le_refl _) h.m1 h.mc hT E hN
theorem iOk (h : FSt b f a n c am m cm w) (hT : Tab w) {aB aL aS aC aF : Addr} (E : Errs w aB aL aS aC aF) : Calls Tryz.prog 19 #[.agg #[.int .i64 f.z,.slice a n c,.slice am m cm,.int .i64 f.op,.int .i64 f.st]] w fun e w' => e = .returned (.bool (okF f)) ∧ Below w.heap.size w w' :=
 implFtlOk_any f.z a n c f.qs am m cm f.ps f.op f.st w h.sq (Nat.le_refl _) h.n1 h.fits h.pl (Nat.le_refl _) h.m1 h.mc hT E
theorem iSame (h : FSt b f a n c am m cm w) (h' : FSt b' g a' n' c' am' m' cm' w) (hT : Tab w) {aB aL aS aC aF : Addr} (E : Errs w aB aL aS aC aF) : Calls Tryz.prog 23 #[.agg #[.int .i64 f.z,.slice a n c,.slice am m cm,.int .i64 f.op,.int .i64 f.st],.agg #[.int .i64 g.z,.slice a' n' c',.slice am' m' cm',.int .i64 g.op,.int .i64 g.st]] w fun e w' => e = .returned (.bool (sameF f g)) ∧ Below w.heap.size w w' :=
 implSame_any f g a n c am m cm a' n' c' am' m' cm' w h.sq (Nat.le_refl _) h.n1 h.fits h.pl (Nat.le_refl _) h.m1 h'.sq (Nat.le_refl _) h'.n1 h'.fits h'.pl (Nat.le_refl _) h'.m1 h.mc h'.mc hT E
end
structure NiceF (f : Fv) : Prop where
 fits : ∀ y ∈ f.qs,sqFits y
 squares : f.qs.length <= 1048576
 places : f.ps.length <= 1048576
theorem nice_okF {f : Fv} (h : okF f = true) : NiceF f := by
 have hch := mapOk_chip (ftlOk_map h)
 have := (chipOk_parts hch).2.2.2.1
 have := (mapOk_len (ftlOk_map h)).2
 exact ⟨chipOk_fits hch,by omega,by omega⟩
theorem nice_scrub {f : Fv} (hf : NiceF f) : NiceF (scrubF f) := by
 cases h : scrubB f with
 | true => exact nice_okF (scrub_law h).2.1
 | false =>
  rcases scrub_no h with e | e
  ·rw [e]; exact hf
  ·rw [e]; exact ⟨fun y hy => by simp at hy,by simp,by simp⟩
theorem fst_nice {b n c m cm B : Nat} {f : Fv} {a am : Option Addr} {w w' : World} (h : FtlIn B w f a n c am m cm) : NiceF f :=
 ⟨h.fits,by have := h.sq.1; have := h.n13; omega,by have := h.pl.1; have := h.m200; omega⟩
set_option maxHeartbeats 8000000 in
set_option maxRecDepth 100000 in
theorem fnScrubbed_any (hd : JobDraws) (a0 : Option Addr) (len0 cap0 : Nat) (l : List UInt8) (w : World) (hA : Bytes 0 w.heap.size w a0 len0 l) (hlen : len0 <= 9223372036854775807) (hT : Tab w) {aB aL aS aC aF aN : Addr} (E : Errs w aB aL aS aC aF) (hN : w.cell? ⟨1,0,none⟩ = some (noRoomV aN)) :
  Calls Tryz.prog 5 #[.slice a0 len0 cap0] w fun e w' => e = .returned (.bool true) ∧ Below w.heap.size w w' := by
 by_cases hbig : 4096 < len0
 case pos =>
  have hb' : decide (4096 < len0) = true := by simpa using hbig
  go_enter Tryz.func5,Tryz.ntmps5
  go_wp2_with fail
  refine (big_any a0 len0 cap0 w hlen).mono ?_
  rintro e w1 ⟨rfl,rfl⟩
  go_wp2_with fail
  go_ret
  exact ⟨rfl,Below.refl _ _⟩
 have hb' : decide (4096 < len0) = false := by simpa using hbig
 have hn4 : len0 <= 4096 := by omega
 clear hbig
 have HA := hide hA
 have HT := hide hT
 have HE := hide E
 have hgN : 1 < w.heap.size := cell_ltE hN
 have HN0 : ∀ w9,Hid (Below w.heap.size w w9 -> w9.cell? ⟨1,0,none⟩ = some (noRoomV aN)) := fun w9 h9 => (h9.cell (p := ⟨1,0,none⟩) hgN).trans hN
 have HJD := hide hd
 clear hA hT E hN hgN hd
 go_enter Tryz.func5,Tryz.ntmps5
 go_wp2_with fail
 refine (big_any a0 len0 cap0 w hlen).mono ?_
 rintro e w1 ⟨rfl,rfl⟩
 go_wp2_with fail
 refine (drawScrubbed_any HJD.out a0 len0 cap0 l w HA.out (Nat.le_refl _) hn4).mono ?_
 rintro e w1 ⟨f,a,n,c,am,m,cm,rfl,hD,b1⟩
 obtain ⟨wX,hwX⟩ : ∃ wX,wX = w1.alloc (.cells #[.int .i64 f.z,.slice a n c,.slice am m cm,.int .i64 f.op,.int .i64 f.st] 29) := ⟨_,rfl⟩
 have hbX : Below w1.heap.size w1 wX := by rw [hwX]; exact (Below.refl _ _).alloc (Nat.le_refl _) _
 have HF1 : Hid (FSt w1.heap.size f a n c am m cm wX) := fst_in hD hbX (by rw [hwX]; exact heap_new _ _)
 have HB1 := hide (below_here b1 hbX)
 have HNF := hide (nice_scrub (fst_nice (b := 0) (w' := w) hD))
 have hm : f.ps.length = m := hD.pl.1
 have HM := hide hm
 clear hD b1 hbX hm HJD
 go_wp2_with fail
 rw [<- hwX]
 clear hwX
 refine (iRot HF1.out (HT.out.here HB1.out) (HE.out.here HB1.out)).mono ?_
 rintro e w2 ⟨a9,c9,rfl,hI,b2⟩
 obtain ⟨L,hL⟩ : ∃ L,L = (rotV f).length := ⟨_,rfl⟩
 have HL := hide hL
 have hL64 : L <= 64 := by rw [hL]; exact rotV_len f
 rw [<- hL] at hI ⊢
 have HI2 := hide hI
 have HF2 := hide (HF1.out.on b2)
 have HB2 := hide (below_here HB1.out b2)
 clear hI b2 HF1 HB1 hL
 obtain ⟨f0,f1,f2,f3,f4⟩ := five_cells HF2.out.k
 go_wp2_with fail
 have HCE := hide (iScr HF2.out (HT.out.here HB2.out) (HE.out.here HB2.out) ((HN0 _).out HB2.out))
 have HCS : ∀ w9,Hid (FSt w1.heap.size f a n c am m cm w9 -> Calls Tryz.prog 32 #[.agg #[.int .i64 f.z,.slice a n c,.slice am m cm,.int .i64 f.op,.int .i64 f.st]] w9 fun e w' => ∃ v,e = .returned (.tuple #[v,.bool (scrubB f)]) ∧ FtlAns w9 (scrubF f) v w') := fun w9 h9 => sScr h9
 have HLAW := hide (fun h => scrub_law (f := f) h)
 have HNO := hide (fun h => scrub_no (f := f) h)
 generalize scrubF f = x at HNF HCE HCS HLAW HNO
 generalize scrubB f = bx at HCE HCS HLAW HNO
 refine HCE.out.mono ?_
 rintro e w3 ⟨v,rfl,ax,cx,amx,cmx,rfl,hO,b3,hcm⟩
 unfold fvV
 clear HCE f0 f1 f2 f3 f4
 obtain ⟨wY,hwY⟩ : ∃ wY,wY = w3.alloc (.cells #[.int .i64 x.z,.slice ax x.qs.length cx,.slice amx x.ps.length cmx,.int .i64 x.op,.int .i64 x.st] 29) := ⟨_,rfl⟩
 have hbY : Below w3.heap.size w3 wY := by rw [hwY]; exact (Below.refl _ _).alloc (Nat.le_refl _) _
 have HX3 : Hid (FSt w3.heap.size x ax x.qs.length cx amx x.ps.length cmx wY) := fst_own hO HNF.out.fits HNF.out.squares HNF.out.places hcm hbY (by rw [hwY]; exact heap_new _ _)
 have HF3 := hide ((HF2.out.on b3).on hbY)
 have HI3 := hide ((HI2.out.onL b3).onL hbY)
 have HB3 := hide (below_here (below_here HB2.out b3) hbY)
 clear hO b3 hcm hbY HF2 HI2 HB2
 obtain ⟨f0,f1,f2,f3,f4⟩ := five_cells HF3.out.k
 rw [hwY] at f0 f1 f2 f3 f4
 go_wp2_with fail
 rw [<- hwY]
 clear hwY f0 f1 f2 f3 f4
 refine ((HCS _).out HF3.out).mono ?_
 rintro e w4 ⟨v,rfl,ay,cy,amy,cmy,rfl,hO,b4,hcm⟩
 unfold fvV
 clear HCS
 obtain ⟨wV,hwV⟩ : ∃ wV,wV = w4.alloc (.cells #[.int .i64 x.z,.slice ay x.qs.length cy,.slice amy x.ps.length cmy,.int .i64 x.op,.int .i64 x.st] 29) := ⟨_,rfl⟩
 have hbV : Below w4.heap.size w4 wV := by rw [hwV]; exact (Below.refl _ _).alloc (Nat.le_refl _) _
 have HYV : Hid (FSt w4.heap.size x ay x.qs.length cy amy x.ps.length cmy wV) := fst_own hO HNF.out.fits HNF.out.squares HNF.out.places hcm hbV (by rw [hwV]; exact heap_new _ _)
 have HXV := hide ((HX3.out.on b4).on hbV)
 have HFV := hide ((HF3.out.on b4).on hbV)
 have HIV := hide ((HI3.out.onL b4).onL hbV)
 have HBV := hide (below_here (below_here HB3.out b4) hbV)
 clear hO b4 hcm hbV HX3 HF3 HI3 HB3
 have ebb : (bx != bx) = false := by cases bx <;> rfl
 have eb2 : (bx == bx) = true := by cases bx <;> rfl
 obtain ⟨x0,x1,x2,x3,x4⟩ := five_cells HXV.out.k
 obtain ⟨y0,y1,y2,y3,y4⟩ := five_cells HYV.out.k
 rw [hwV] at x0 x1 x2 x3 x4 y0 y1 y2 y3 y4
 go_wp2_with fail
 rw [<- hwV]
 clear hwV x0 x1 x2 x3 x4 y0 y1 y2 y3 y4
 refine (sLike HXV.out HYV.out).mono ?_
 rintro e w5 ⟨rfl,b5⟩
 rw [likeF_same]
 have HX5 := hide (HXV.out.on b5)
 have HF5 := hide (HFV.out.on b5)
 have HI5 := hide (HIV.out.onL b5)
 have HB5 := hide (below_here HBV.out b5)
 clear b5 HXV HFV HIV HBV HYV
 obtain ⟨f0,f1,f2,f3,f4⟩ := five_cells HF5.out.k
 go_wp2_with fail
 refine (sRot HF5.out).mono ?_
 rintro e w6 ⟨a8,c8,rfl,hI,b6⟩
 rw [<- HL.out] at hI ⊢
 have HX6 := hide (HX5.out.on b6)
 have HF6 := hide (HF5.out.on b6)
 have HI6 := hide (HI5.out.onL b6)
 have HB6 := hide (below_here HB5.out b6)
 have HJ6 := hide hI
 clear b6 hI HX5 HF5 HI5 HB5 f0 f1 f2 f3 f4
 go_wp2_with fail
 refine (likeTwo_any a9 L c9 (rotI f) a8 L c8 (rotI f) w6 HI6.out HJ6.out (by omega) (by omega)).mono ?_
 rintro e w7 ⟨rfl,b7⟩
 rw [show decide (rotI f = rotI f) = true from decide_eq_true rfl]
 have HX7 := hide (HX6.out.on b7)
 have HF7 := hide (HF6.out.on b7)
 have HI7 := hide (HI6.out.onL b7)
 have HB7 := hide (below_here HB6.out b7)
 clear b7 HX6 HF6 HI6 HB6 HJ6 ebb eb2
 cases bx with
 | false =>
  obtain ⟨x0,x1,x2,x3,x4⟩ := five_cells HX7.out.k
  obtain ⟨f0,f1,f2,f3,f4⟩ := five_cells HF7.out.k
  go_wp2_with fail
  refine (sLike HX7.out HF7.out).mono ?_
  rintro e w8 ⟨rfl,b8⟩
  have HX8 := hide (HX7.out.on b8)
  have HB8 := hide (below_here HB7.out b8)
  have hno := HNO.out (by simp)
  clear b8 HX7 HF7 HI7 HB7 x0 x1 x2 x3 x4 f0 f1 f2 f3 f4
  obtain ⟨lk,hlk⟩ : ∃ lk,lk = likeF x f := ⟨_,rfl⟩
  rw [<- hlk]
  have HLK := hide hlk
  clear hlk
  cases lk with
  | true =>
   clear hno
   go_wp2_with fail
   go_ret
   exact ⟨rfl,HB8.out⟩
  | false =>
   have hx0 : x = ⟨0,[],[],0,0⟩ := by
    rcases hno with e | e
    ·have hlk := HLK.out; rw [e,likeF_same] at hlk; cases hlk
    ·exact e
   have HX0 := hide hx0
   clear hno HLK hx0
   obtain ⟨x0,x1,x2,x3,x4⟩ := five_cells HX8.out.k
   go_wp2_with fail
   refine (sLike0 HX8.out).mono ?_
   rintro e w9 ⟨rfl,b9⟩
   rw [show likeF x ⟨0,[],[],0,0⟩ = true by rw [HX0.out,likeF_same]]
   have HB9 := hide (below_here HB8.out b9)
   clear b9 x0 x1 x2 x3 x4
   go_wp2_with fail
   go_ret
   exact ⟨rfl,HB9.out⟩
 | true =>
  obtain ⟨hf,hx,hsame,hst,hleft⟩ := HLAW.out (by simp)
  have HFO := hide hf
  have HXO := hide hx
  have HSA := hide hsame
  have HST := hide hst
  have HLE := hide hleft
  clear hf hx hsame hst hleft HNO HLAW
  go_wp2_with fail
  go_loopw [9] (fun i wr => ∃ k : Nat,k <= L ∧ i = .int .i64 k ∧ Below w7.heap.size w7 wr) (fun i _ => L - (intOf i).toNat)
  case atStart => exact ⟨0,Nat.zero_le _,rfl,Below.refl _ _⟩
  case round =>
   obtain ⟨k,hk,rfl,hbel⟩ := hrel
   have HFR := hide (HF7.out.on hbel)
   have HXR := hide (HX7.out.on hbel)
   have HIR := hide (HI7.out.onL hbel)
   have HBR := hide (below_here HB7.out hbel)
   have HBL := hide hbel
   clear hbel
   by_cases hlt : k < L
   ·have hlt2 : (k : Int) < (L : Int) := by omega
    obtain ⟨hJ1,hJ2,hJ3⟩ := rot_each HFO.out (j := k) (by rw [<- HL.out]; exact hlt)
    have hJ4 := rotI_at (f := f) (k := k) (by rw [<- HL.out]; exact hlt)
    generalize (rotV f).getD k 0 = J at hJ1 hJ2 hJ3 hJ4
    obtain ⟨b9,o9,rfl,hb91,hb92,hc9⟩ := HIR.out.2.2 (by omega)
    have q0 : wr.cell? ⟨b9,o9 + k,none⟩ = some (.int .i64 (J : Int)) := by
     rw [hc9 k hlt]; unfold cellI; rw [hJ4]
    have hJm : J < m := by have := HM.out; omega
    have hJm1 : (0 : Int) <= (J : Int) := by omega
    have hJm2 : (J : Int) < (m : Int) := by omega
    obtain ⟨bm,om,rfl,hbm1,hbm2,hcm9⟩ := HFR.out.pl.2.2 (by omega)
    obtain ⟨p0,p1⟩ := pl_cells hcm9 (Below.refl wr.heap.size wr) hbm2 hJm
    obtain ⟨f0,f1,f2,f3,f4⟩ := five_cells HFR.out.k
    have hbf : w1.heap.size < wr.heap.size := (Array.getElem?_eq_some_iff.1 HFR.out.k).1
    obtain ⟨s1,hs1⟩ : ∃ s,s = (plAt f.ps J).1 := ⟨_,rfl⟩
    obtain ⟨s2,hs2⟩ : ∃ s,s = (plAt f.ps J).2 := ⟨_,rfl⟩
    rw [<- hs1] at p0
    rw [<- hs2] at p1
    have hly : (lyP (pageAt f.z f.qs s1 s2)).2.2.2.2 = 2 := by rw [hs1,hs2]; exact hJ3
    have hsz : (pageAt f.z f.qs s1 s2).size <= 1048576 := by
     unfold pageAt
     split
     ·exact Nat.le_trans (getD_small (txs_small (mapOk_chip (ftlOk_map HFO.out))) _ _) (Nat.le_refl _)
     ·simp
    have HCP : ∀ w9,Hid (Below wr.heap.size wr w9 -> Calls Tryz.prog 35 #[.agg #[.int .i64 f.z,.slice a n c],.int .i64 s1,.int .i64 s2] w9 fun e w' => e = .returned (.string (pageAt f.z f.qs s1 s2)) ∧ Below w9.heap.size w9 w') := fun w9 h9 => specPageAt_any f.z a n c f.qs s1 s2 w9 (HFR.out.on h9).sq (Nat.le_refl _) HFR.out.n1 HFR.out.fits
    generalize pageAt f.z f.qs s1 s2 = tx at HCP hly hsz
    obtain ⟨r0,r1,r2,r3,hr⟩ : ∃ r0 r1 r2 r3,lyP tx = (r0,r1,r2,r3,2) := ⟨_,_,_,_,by rw [<- hly]⟩
    have HCL : ∀ w9,Hid (Calls Tryz.prog 16 #[.string tx] w9 fun e w' => e = .returned (.tuple #[.agg #[.int .i64 r0,.int .i64 r1,.int .i64 r2,.string r3],.int .i64 2]) ∧ Below w9.heap.size w9 w') := fun w9 => by
     have h := specLying_any tx w9 hsz
     rw [hr] at h
     exact h
    have HK : ∀ w',Hid (Below wr.heap.size wr w' -> w'.cell? ⟨w1.heap.size,0,none⟩ = some (.int .i64 f.z) ∧ w'.cell? ⟨w1.heap.size,1,none⟩ = some (.slice a n c) ∧ w'.cell? ⟨w1.heap.size,2,none⟩ = some (.slice (some ⟨bm,om,none⟩) m cm) ∧ w'.cell? ⟨b9,o9 + k,none⟩ = some (.int .i64 (J : Int)) ∧ w'.cell? ⟨bm,om + J * 2,none⟩ = some (.int .i64 s1) ∧ w'.cell? ⟨bm,om + J * 2 + 1,none⟩ = some (.int .i64 s2)) := fun w' hb' => ⟨(hb'.cell (p := ⟨_,_,none⟩) hbf).trans f0,(hb'.cell (p := ⟨_,_,none⟩) hbf).trans f1,(hb'.cell (p := ⟨_,_,none⟩) hbf).trans f2,(hb'.cell (p := ⟨_,_,none⟩) (by show b9 < _; omega)).trans q0,(hb'.cell (p := ⟨_,_,none⟩) (by show bm < _; omega)).trans p0,(hb'.cell (p := ⟨_,_,none⟩) (by show bm < _; omega)).trans p1⟩
    clear hly hsz hr hs1 hs2 hJ1 hJ2 hJ3 hJ4 hc9 hcm9
    go_upto_region 14 with fail
    go_cut [11] (fun v wx => v = .int .i64 2 ∧ Below wr.heap.size wr wx)
    case first =>
     have HB0 : Hid (Below wr.heap.size wr wr.drew) := (Below.refl wr.heap.size wr).drew
     have HBa : Hid (Below wr.heap.size wr (wr.alloc (.cells #[.int .i64 0,.int .i64 0,.int .i64 0,.string ⟨#[]⟩] 31)).drew) := ((Below.refl wr.heap.size wr).alloc (Nat.le_refl _) _).drew
     have HEa : Hid ((wr.alloc (.cells #[.int .i64 0,.int .i64 0,.int .i64 0,.string ⟨#[]⟩] 31)).drew.heap[wr.heap.size]? = some (.cells #[.int .i64 0,.int .i64 0,.int .i64 0,.string ⟨#[]⟩] 31)) := heap_new wr _
     go_region_held3 (fun w' => w'.cell? ⟨w1.heap.size,0,none⟩ = some (.int .i64 f.z) ∧ w'.cell? ⟨w1.heap.size,1,none⟩ = some (.slice a n c) ∧ w'.cell? ⟨w1.heap.size,2,none⟩ = some (.slice (some ⟨bm,om,none⟩) m cm) ∧ w'.cell? ⟨b9,o9 + k,none⟩ = some (.int .i64 (J : Int)) ∧ w'.cell? ⟨bm,om + J * 2,none⟩ = some (.int .i64 s1) ∧ w'.cell? ⟨bm,om + J * 2 + 1,none⟩ = some (.int .i64 s2))
      (first | exact (HK _).out HB0.out | exact (HK _).out HBa.out | exact (HK _).out HB1.out | exact (HK _).out HB1a.out | exact (HK _).out HB2.out | exact (HK _).out HB2a.out | exact (HK _).out HBS.out | exact ⟨f0,f1,f2,q0,p0,p1⟩ | fail)
      (first
       | (go_at_call 35; refine ((HCP _).out HB0.out).mono ?_; rintro e g1 ⟨rfl,b1⟩; have HB1 := hide (below_here HB0.out b1); have HB1a := hide (HB1.out.alloc HB1.out.size (.cells #[.int .i64 0,.int .i64 0,.int .i64 0,.string ⟨#[]⟩] 31)); have HE1a := hide (heap_new g1 (.cells #[.int .i64 0,.int .i64 0,.int .i64 0,.string ⟨#[]⟩] 31)); clear b1)
       | (go_at_call 35; refine ((HCP _).out HBa.out).mono ?_; rintro e g1 ⟨rfl,b1⟩; have HB1 := hide (below_here HBa.out b1); have HE1 := hide (block_on HEa.out b1); clear b1)
       | (go_at_call 16; refine (HCL g1).out.mono ?_; rintro e g2 ⟨rfl,b2⟩; have HE2 := hide (block_on HE1.out b2); have HB2 := hide (below_here HB1.out b2); obtain ⟨e0,e1,e2,e3⟩ := four_cells HE2.out; have g0 := four_frozen HE2.out 0; have g3 := four_frozen HE2.out 1; have g4 := four_frozen HE2.out 2; have g5 := four_frozen HE2.out 3; have HBS := hide (four_below (b := wr.heap.size) HB2.out (Nat.le_refl _) (.int .i64 r0) (.int .i64 r1) (.int .i64 r2) (.string r3)))
       | (go_at_call 16; refine (HCL (g1.alloc (.cells #[.int .i64 0,.int .i64 0,.int .i64 0,.string ⟨#[]⟩] 31))).out.mono ?_; rintro e g2 ⟨rfl,b2⟩; have HE2 := hide (block_on HE1a.out b2); have HB2 := hide (below_here HB1a.out b2); obtain ⟨e0,e1,e2,e3⟩ := four_cells HE2.out; have g0 := four_frozen HE2.out 0; have g3 := four_frozen HE2.out 1; have g4 := four_frozen HE2.out 2; have g5 := four_frozen HE2.out 3; have HBS := hide (four_below (b := g1.heap.size) HB2.out HB1.out.size (.int .i64 r0) (.int .i64 r1) (.int .i64 r2) (.string r3)))
       | (go_at_call 16; refine (HCL g1).out.mono ?_; rintro e g2 ⟨rfl,b2⟩; have HB2 := hide (below_here HB1.out b2); have HB2a := hide (HB2.out.alloc HB2.out.size (.cells #[.int .i64 0,.int .i64 0,.int .i64 0,.string ⟨#[]⟩] 31)); have HBS := hide (HB2.out.alloc HB2.out.size (.cells #[.int .i64 r0,.int .i64 r1,.int .i64 r2,.string r3] 31)))
       | fail)
     all_goals
      go_wp2_with fail
      go_meet
      exact ⟨rfl,HBS.out⟩
    case rest =>
     obtain ⟨rfl,hb5⟩ := hcut
     have HBQ := hide (below_here HBL.out hb5)
     clear hb5 HK HCP HCL f0 f1 f2 f3 f4 q0 p0 p1
     go_wp2_with fail
     exact ⟨⟨k + 1,by omega,by go_num,HBQ.out⟩,by simp [intOf]; omega⟩
   ·obtain rfl : k = L := by omega
    obtain ⟨x0,x1,x2,x3,x4⟩ := five_cells HXR.out.k
    go_wp2_with fail
    refine (iRot HXR.out (HT.out.here HBR.out) (HE.out.here HBR.out)).mono ?_
    rintro e w10 ⟨ar,cr,rfl,_,b10⟩
    rw [HLE.out,List.length_nil]
    have HX10 := hide (HXR.out.on b10)
    have HF10 := hide (HFR.out.on b10)
    have HB10 := hide (below_here HBR.out b10)
    clear b10 HXR HFR HBR x0 x1 x2 x3 x4
    go_wp2_with fail
    go_loopw [13] (fun i wq => i = .int .i64 0 ∧ wq = w10) (fun _ _ => 0)
    case atStart => exact ⟨rfl,rfl⟩
    case round =>
     obtain ⟨rfl,rfl⟩ := hrel
     have hfs := (ftlOk_parts HFO.out)
     have hst0 : 0 <= f.st := hfs.2.2.2.1
     have hst1 : f.st <= 1000000 := hfs.2.2.2.2.1
     have hww : IntKind.i64.wrap (f.st + (k : Int)) = x.st := by
      rw [HST.out,<- HL.out,IntKind.wrap_i64]; omega
     clear hfs hst0 hst1
     obtain ⟨x0,x1,x2,x3,x4⟩ := five_cells HX10.out.k
     go_wp2_with fail
     refine (iOk HX10.out (HT.out.here HB10.out) (HE.out.here HB10.out)).mono ?_
     rintro e w11 ⟨rfl,b11⟩
     rw [HXO.out]
     have HX11 := hide (HX10.out.on b11)
     have HF11 := hide (HF10.out.on b11)
     have HB11 := hide (below_here HB10.out b11)
     clear b11 HX10 HF10 HB10 x0 x1 x2 x3 x4
     obtain ⟨x0,x1,x2,x3,x4⟩ := five_cells HX11.out.k
     obtain ⟨f0,f1,f2,f3,f4⟩ := five_cells HF11.out.k
     go_wp2_with fail
     refine (iSame HF11.out HX11.out (HT.out.here HB11.out) (HE.out.here HB11.out)).mono ?_
     rintro e w12 ⟨rfl,b12⟩
     rw [HSA.out]
     have HX12 := hide (HX11.out.on b12)
     have HF12 := hide (HF11.out.on b12)
     have HB12 := hide (below_here HB11.out b12)
     clear b12 HX11 HF11 HB11 x0 x1 x2 x3 x4 f0 f1 f2 f3 f4
     obtain ⟨x0,x1,x2,x3,x4⟩ := five_cells HX12.out.k
     obtain ⟨f0,f1,f2,f3,f4⟩ := five_cells HF12.out.k
     go_wp2_with fail
     go_ret
     exact ⟨rfl,HB12.out⟩
end Go.Proofs.YtgjoepdfhadmcaaGreatDoor
end

