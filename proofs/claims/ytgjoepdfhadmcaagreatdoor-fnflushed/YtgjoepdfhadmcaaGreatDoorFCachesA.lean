/- Several texts in one: CachesA, CachesD, FlushSt, FlushedW. -/
import Derived.Test.YtgjoepdfhadmcaaGreatDoorFDraw12e
import Derived.Test.YtgjoepdfhadmcaaGreatDoorFTextWalk
import Derived.Test.YtgjoepdfhadmcaaGreatDoorFChipOwn2
import Derived.Test.YtgjoepdfhadmcaaGreatDoorFChipAns
import Derived.Test.YtgjoepdfhadmcaaGreatDoorFChipGrow
import Derived.Test.YtgjoepdfhadmcaaGreatDoorFFtlOwnP
import Derived.Test.YtgjoepdfhadmcaaGreatDoorFCSpecD
import Derived.Test.YtgjoepdfhadmcaaGreatDoorFFtlImplI
import Derived.Test.YtgjoepdfhadmcaaGreatDoorFCacheFlushI
import Derived.Test.YtgjoepdfhadmcaaGreatDoorFFtlImplH
import Derived.Test.YtgjoepdfhadmcaaGreatDoorFFtlImplA
import Derived.Test.YtgjoepdfhadmcaaGreatDoorFFtlMath
import Derived.Test.YtgjoepdfhadmcaaGreatDoorFPageMath
import Derived.Test.YtgjoepdfhadmcaaGreatDoorFPageBase
import Derived.Test.YtgjoepdfhadmcaaGreatDoorFWeaveSpec
import Derived.BigRegion
import Derived.Lib.QuietBelow
import Derived.BigQuiet
import Derived.Deep.RegionHeld3
import Derived.Deep.DeepCutAuto
import Derived.Deep.QuietTactic
import Derived.Test.YtgjoepdfhadmcaaGreatDoorFQuietTail
import Derived.Test.YtgjoepdfhadmcaaGreatDoorFDraw12
import Derived.Test.YtgjoepdfhadmcaaGreatDoorFDrawBase
import Derived.Test.YtgjoepdfhadmcaaGreatDoorFTextEq
import Derived.Deep.Cut
import Derived.Laws.Concat
section
namespace Go.Proofs.YtgjoepdfhadmcaaGreatDoor
open Go.RowKit
set_option linter.unusedVariables false
set_option linter.unusedSimpArgs false
set_option maxRecDepth 20000
structure NiceC (c : Cv) : Prop where
 y1 : c.ys.length <= 1048576
 yf : ∀ x ∈ c.ys,hdFits x
 n1 : c.f.qs.length <= 1048576
 fits : ∀ x ∈ c.f.qs,sqFits x
 m1 : c.f.ps.length <= 1048576
theorem nice_ok {c : Cv} (h : cacheOk c = true) : NiceC c := by
 obtain ⟨h1,h2,h3,h4,h5⟩ := okC_fits h
 exact ⟨h1,h2,h3,h4,h5⟩
theorem nice_zero : NiceC zeroC := ⟨by simp [zeroC],fun x hx => by simp [zeroC] at hx,by simp [zeroC],fun x hx => by simp [zeroC] at hx,by simp [zeroC]⟩
theorem nice_keep (c : Cv) (a : Int) (tx : ByteArray) : NiceC (keepF c a tx) := by
 cases h : cacheOk c with
 | true => exact nice_ok (keepF_ok h a tx)
 | false =>
  have e : keepF c a tx = zeroC := by unfold keepF; rw [h]; rfl
  rw [e]; exact nice_zero
theorem nice_load (c : Cv) (a : Int) : NiceC (loadF c a) := by
 cases h : cacheOk c with
 | true => exact nice_ok (loadF_ok h a)
 | false =>
  have e : loadF c a = zeroC := by unfold loadF; rw [h]; rfl
  rw [e]; exact nice_zero
theorem nice_flush (c : Cv) : NiceC (flushF c) := by
 cases h : cacheOk c with
 | true => exact nice_ok (flushF_ok h)
 | false =>
  have e : flushF c = zeroC := by unfold flushF; rw [h]; rfl
  rw [e]; exact nice_zero
theorem nice_new (f : Fv) (rm : Int) : NiceC (newCF f rm) := by
 cases h : newCB f rm with
 | true =>
  have e : newCF f rm = ⟨rm,[],f⟩ := by unfold newCF; rw [h]; rfl
  rw [e]; exact nice_ok (newC_ok h)
 | false =>
  have e : newCF f rm = zeroC := by unfold newCF; rw [h]; rfl
  rw [e]; exact nice_zero
structure KSt (b : Nat) (c : Cv) (ai : Option Addr) (ci : Nat) (a2 : Option Addr) (cp : Nat) (am : Option Addr) (cm : Nat) (w : World) : Prop where
 k : w.heap[b]? = some (.cells #[.int .i64 c.rm,.slice ai c.ys.length ci,.int .i64 c.f.z,.slice a2 c.f.qs.length cp,.slice am c.f.ps.length cm,.int .i64 c.f.op,.int .i64 c.f.st] 65)
 nice : NiceC c
 rd : CRd 0 w.heap.size w ai a2 am c.ys c.f.qs c.f.ps
section
variable {b : Nat} {c : Cv} {ai : Option Addr} {ci : Nat} {a2 : Option Addr} {cp : Nat} {am : Option Addr} {cm : Nat} {w w' : World}
theorem KSt.on (h : KSt b c ai ci a2 cp am cm w) (hb : Below w.heap.size w w') : KSt b c ai ci a2 cp am cm w' :=
 ⟨block_on h.k hb,h.nice,(h.rd.later hb (Nat.le_refl _)).wide (Nat.le_refl _) hb.size (Nat.le_refl _)⟩
theorem kst_rd {lo : Nat} (h : CRd lo w.heap.size w ai a2 am c.ys c.f.qs c.f.ps) (hn : NiceC c) (hb : Below w.heap.size w w') (hk : w'.heap[b]? = some (.cells #[.int .i64 c.rm,.slice ai c.ys.length ci,.int .i64 c.f.z,.slice a2 c.f.qs.length cp,.slice am c.f.ps.length cm,.int .i64 c.f.op,.int .i64 c.f.st] 65)) : KSt b c ai ci a2 cp am cm w' :=
 ⟨hk,hn,(h.later hb (Nat.le_refl _)).wide (Nat.zero_le _) hb.size (Nat.le_refl _)⟩
def Told (w : World) (c : Cv) (v : Value) (w' : World) : Prop := ∃ (ai : Option Addr) (ci : Nat) (a2 : Option Addr) (cp : Nat) (am : Option Addr) (cm : Nat),v = .agg #[.int .i64 c.rm,.slice ai c.ys.length ci,.int .i64 c.f.z,.slice a2 c.f.qs.length cp,.slice am c.f.ps.length cm,.int .i64 c.f.op,.int .i64 c.f.st] ∧ CRd w.heap.size w'.heap.size w' ai a2 am c.ys c.f.qs c.f.ps ∧ Below w.heap.size w w'
def ToldM (w : World) (c : Cv) (v : Value) (w' : World) : Prop := ∃ (ai : Option Addr) (ci : Nat) (a2 : Option Addr) (cp : Nat) (am : Option Addr) (cm : Nat),v = .agg #[.int .i64 c.rm,.slice ai c.ys.length ci,.int .i64 c.f.z,.slice a2 c.f.qs.length cp,.slice am c.f.ps.length cm,.int .i64 c.f.op,.int .i64 c.f.st] ∧ CRd w.heap.size w'.heap.size w' ai a2 am c.ys c.f.qs c.f.ps ∧ Below w.heap.size w w' ∧ c.f.ps.length <= cm
theorem toldM_of {v : Value} (h : CacheAns w c v w') : ToldM w c v w' := by
 obtain ⟨ai,ci,a,cp,am,cm,h1,h2,h3,h4⟩ := h
 exact ⟨ai,ci,a,cp,am,cm,h1,h2.rd,h3,h4⟩
theorem ToldM.told {v : Value} (h : ToldM w c v w') : Told w c v w' := by
 obtain ⟨ai,ci,a,cp,am,cm,h1,h2,h3,h4⟩ := h
 exact ⟨ai,ci,a,cp,am,cm,h1,h2,h3⟩
variable (h : KSt b c ai ci a2 cp am cm w) (hT : Tab w) {aB aL aS aC aF aN : Addr} (E : Errs w aB aL aS aC aF) (hN : w.cell? ⟨1,0,none⟩ = some (noRoomV aN)) (hcm : c.f.ps.length <= cm)
include h
theorem kKeep (x : Int) (tx : ByteArray) (htx : tx.size <= 4096) (hcm : c.f.ps.length <= cm) (hT : Tab w) (E : Errs w aB aL aS aC aF) (hN : w.cell? ⟨1,0,none⟩ = some (noRoomV aN)) : Calls Tryz.prog 37 #[.agg #[.int .i64 c.rm,.slice ai c.ys.length ci,.int .i64 c.f.z,.slice a2 c.f.qs.length cp,.slice am c.f.ps.length cm,.int .i64 c.f.op,.int .i64 c.f.st],.int .i64 x,.string tx] w fun e w' => ∃ v,e = .returned (.tuple #[v,.bool (keepB c x tx)]) ∧ ToldM w (keepF c x tx) v w' := by
 refine (implKeep_any c.rm ai c.ys.length ci c.ys c.f.z a2 c.f.qs.length cp c.f.qs am c.f.ps.length cm c.f.ps c.f.op c.f.st x tx w h.rd.helds h.rd.hi_le h.nice.y1 h.nice.yf h.rd.squares h.rd.hi_le h.nice.n1 h.nice.fits h.rd.places h.rd.hi_le h.nice.m1 hcm hT E hN (by omega)).mono ?_
 rintro e w' ⟨v,rfl,hv⟩
 exact ⟨v,rfl,toldM_of hv⟩
theorem kLoad (x : Int) (hcm : c.f.ps.length <= cm) (hT : Tab w) (E : Errs w aB aL aS aC aF) (hN : w.cell? ⟨1,0,none⟩ = some (noRoomV aN)) : Calls Tryz.prog 39 #[.agg #[.int .i64 c.rm,.slice ai c.ys.length ci,.int .i64 c.f.z,.slice a2 c.f.qs.length cp,.slice am c.f.ps.length cm,.int .i64 c.f.op,.int .i64 c.f.st],.int .i64 x] w fun e w' => ∃ v,e = .returned (.tuple #[v,.string (loadT c x),.bool (loadB c x)]) ∧ ToldM w (loadF c x) v w' := by
 refine (implLoad_any c.rm ai c.ys.length ci c.ys c.f.z a2 c.f.qs.length cp c.f.qs am c.f.ps.length cm c.f.ps c.f.op c.f.st x w h.rd.helds h.rd.hi_le h.nice.y1 h.nice.yf h.rd.squares h.rd.hi_le h.nice.n1 h.nice.fits h.rd.places h.rd.hi_le h.nice.m1 hcm hT E hN).mono ?_
 rintro e w' ⟨v,rfl,hv⟩
 exact ⟨v,rfl,toldM_of hv⟩
theorem kFlush (hcm : c.f.ps.length <= cm) (hT : Tab w) (E : Errs w aB aL aS aC aF) (hN : w.cell? ⟨1,0,none⟩ = some (noRoomV aN)) : Calls Tryz.prog 41 #[.agg #[.int .i64 c.rm,.slice ai c.ys.length ci,.int .i64 c.f.z,.slice a2 c.f.qs.length cp,.slice am c.f.ps.length cm,.int .i64 c.f.op,.int .i64 c.f.st]] w fun e w' => ∃ v,e = .returned (.tuple #[v,.bool (flushB c)]) ∧ ToldM w (flushF c) v w' := by
 refine (implFlush_any c.rm ai c.ys.length ci c.ys c.f.z a2 c.f.qs.length cp c.f.qs am c.f.ps.length cm c.f.ps c.f.op c.f.st w h.rd.helds h.rd.hi_le h.nice.y1 h.nice.yf h.rd.squares h.rd.hi_le h.nice.n1 h.nice.fits h.rd.places h.rd.hi_le h.nice.m1 hcm hT E hN).mono ?_
 rintro e w' ⟨v,rfl,hv⟩
 exact ⟨v,rfl,toldM_of hv⟩
theorem kOk (hcm : c.f.ps.length <= cm) (hT : Tab w) (E : Errs w aB aL aS aC aF) : Calls Tryz.prog 46 #[.agg #[.int .i64 c.rm,.slice ai c.ys.length ci,.int .i64 c.f.z,.slice a2 c.f.qs.length cp,.slice am c.f.ps.length cm,.int .i64 c.f.op,.int .i64 c.f.st]] w fun e w' => e = .returned (.bool (cacheOk c)) ∧ Below w.heap.size w w' :=
 implCacheOk_any c.rm ai c.ys.length ci c.ys c.f.z a2 c.f.qs.length cp c.f.qs am c.f.ps.length cm c.f.ps c.f.op c.f.st w h.rd.helds h.rd.hi_le h.nice.y1 h.nice.yf h.rd.squares h.rd.hi_le h.nice.n1 h.nice.fits h.rd.places h.rd.hi_le h.nice.m1 hcm hT E
end
section
variable {b : Nat} {f : Fv} {a : Option Addr} {n c : Nat} {am : Option Addr} {m cm : Nat} {w : World}
theorem kNew (h : FSt b f a n c am m cm w) (rm : Int) (hT : Tab w) {aB aL aS aC aF : Addr} (E : Errs w aB aL aS aC aF) : Calls Tryz.prog 43 #[.agg #[.int .i64 f.z,.slice a n c,.slice am m cm,.int .i64 f.op,.int .i64 f.st],.int .i64 rm] w fun e w' => ∃ v,e = .returned (.tuple #[v,.bool (newCB f rm)]) ∧ ToldM w (newCF f rm) v w' := by
 refine (implNewCache_any f.z a n c f.qs am m cm f.ps f.op f.st rm w h.sq (Nat.le_refl _) h.n1 h.fits h.pl (Nat.le_refl _) h.m1 h.mc hT E).mono ?_
 rintro e w' ⟨v,rfl,hv⟩
 exact ⟨v,rfl,toldM_of hv⟩
end
end Go.Proofs.YtgjoepdfhadmcaaGreatDoor
end

section
namespace Go.Proofs.YtgjoepdfhadmcaaGreatDoor
open Go.RowKit
set_option linter.unusedVariables false
set_option maxRecDepth 20000
theorem nice_drop (c : Cv) : NiceC (dropF c) := by
 have hfit := dropF_fit c
 cases h : cacheOk c with
 | true =>
  have e : (dropF c).ys = [] ∧ (dropF c).f.qs = c.f.qs := by unfold dropF; rw [h]; exact ⟨rfl,rfl⟩
  have hn := nice_ok h
  refine ⟨by rw [e.1]; simp,fun x hx => by rw [e.1] at hx; simp at hx,by rw [e.2]; exact hn.n1,by rw [e.2]; exact hn.fits,by have := hfit.2.2; omega⟩
 | false =>
  have e : dropF c = zeroC := by unfold dropF; rw [h]; rfl
  rw [e]; exact nice_zero
section
variable {b : Nat} {c : Cv} {ai : Option Addr} {ci : Nat} {a2 : Option Addr} {cp : Nat} {am : Option Addr} {cm : Nat} {w w' : World}
variable (h : KSt b c ai ci a2 cp am cm w) {aB aL aS aC aF : Addr}
include h
end
end Go.Proofs.YtgjoepdfhadmcaaGreatDoor
end

section
namespace Go.Proofs.YtgjoepdfhadmcaaGreatDoor
open Go.RowKit
set_option linter.unusedVariables false
set_option linter.unusedSimpArgs false
set_option maxRecDepth 20000
theorem row_block {w w' : World} {b n : Nat} {t : TypeId} {f : Nat -> Value} (h : w.rowIs b t n f) (hb : w'.heap[b]? = w.heap[b]?) : w'.rowIs b t n f := by
 obtain ⟨c,h1,h2,h3⟩ := h
 exact ⟨c,hb.trans h1,h2,h3⟩
theorem row_on {w w' : World} {b n : Nat} {t : TypeId} {f : Nat -> Value} (h : w.rowIs b t n f) (hb : Below w.heap.size w w') : w'.rowIs b t n f := row_block h (hb.block b h.lt)
theorem row_asd {w w' : World} {b n l r : Nat} {t : TypeId} {f : Nat -> Value} (h : w.rowIs b t n f) (hb : Aside l r w w') (hn : b < l ∨ r <= b) : w'.rowIs b t n f := row_block h (hb.block b h.lt hn)
structure FsSt (w : World) (bC gN gS gB : Nat) (c : Cv) (ai : Option Addr) (ci : Nat) (a2 : Option Addr) (cp : Nat) (am : Option Addr) (cm k : Nat) (now sure : Nat -> ByteArray) (since : Nat -> Bool) (wr : World) : Prop where
 kst : KSt bC c ai ci a2 cp am cm wr
 mc : c.f.ps.length <= cm
 rNow : wr.rowIs gN 9 4 (fun j => .string (now j))
 rSure : wr.rowIs gS 9 4 (fun j => .string (sure j))
 rSince : wr.rowIs gB 4 4 (fun j => .bool (since j))
 n1 : bC ≠ gN
 n2 : bC ≠ gS
 n3 : bC ≠ gB
 n4 : gN ≠ gS
 n5 : gN ≠ gB
 n6 : gS ≠ gB
 l1 : w.heap.size <= bC
 l2 : w.heap.size <= gN
 l3 : w.heap.size <= gS
 l4 : w.heap.size <= gB
 cw : Cw c k now sure since
 below : Below w.heap.size w wr
structure FsH (w : World) (bC gN gS gB lo : Nat) (c : Cv) (ai : Option Addr) (ci : Nat) (a2 : Option Addr) (cp : Nat) (am : Option Addr) (cm : Nat) (now sure : Nat -> ByteArray) (since : Nat -> Bool) (wr : World) : Prop where
 var : wr.heap[bC]? = some (.cells #[.int .i64 c.rm,.slice ai c.ys.length ci,.int .i64 c.f.z,.slice a2 c.f.qs.length cp,.slice am c.f.ps.length cm,.int .i64 c.f.op,.int .i64 c.f.st] 65)
 nice : NiceC c
 rd : CRd lo wr.heap.size wr ai a2 am c.ys c.f.qs c.f.ps
 mc : c.f.ps.length <= cm
 rNow : wr.rowIs gN 9 4 (fun j => .string (now j))
 rSure : wr.rowIs gS 9 4 (fun j => .string (sure j))
 rSince : wr.rowIs gB 4 4 (fun j => .bool (since j))
 n1 : bC ≠ gN
 n2 : bC ≠ gS
 n3 : bC ≠ gB
 n4 : gN ≠ gS
 n5 : gN ≠ gB
 n6 : gS ≠ gB
 l1 : w.heap.size <= bC
 l2 : w.heap.size <= gN
 l3 : w.heap.size <= gS
 l4 : w.heap.size <= gB
 h1 : bC < lo
 h2 : gN < lo
 h3 : gS < lo
 h4 : gB < lo
 below : Below w.heap.size w wr
section
variable {w : World} {bC gN gS gB lo : Nat} {c c' : Cv} {ai ai' : Option Addr} {ci ci' : Nat} {a2 a2' : Option Addr} {cp cp' : Nat} {am am' : Option Addr} {cm cm' k : Nat} {now sure : Nat -> ByteArray} {since : Nat -> Bool} {wr w' : World}
theorem FsSt.on (h : FsSt w bC gN gS gB c ai ci a2 cp am cm k now sure since wr) (hb : Below wr.heap.size wr w') : FsSt w bC gN gS gB c ai ci a2 cp am cm k now sure since w' :=
 ⟨h.kst.on hb,h.mc,row_on h.rNow hb,row_on h.rSure hb,row_on h.rSince hb,h.n1,h.n2,h.n3,h.n4,h.n5,h.n6,h.l1,h.l2,h.l3,h.l4,h.cw,below_here h.below hb⟩
theorem FsH.on (h : FsH w bC gN gS gB lo c ai ci a2 cp am cm now sure since wr) (hb : Below wr.heap.size wr w') : FsH w bC gN gS gB lo c ai ci a2 cp am cm now sure since w' :=
 ⟨block_on h.var hb,h.nice,(h.rd.later hb (Nat.le_refl _)).wide (Nat.le_refl _) hb.size (Nat.le_refl _),h.mc,row_on h.rNow hb,row_on h.rSure hb,row_on h.rSince hb,h.n1,h.n2,h.n3,h.n4,h.n5,h.n6,h.l1,h.l2,h.l3,h.l4,h.h1,h.h2,h.h3,h.h4,below_here h.below hb⟩
theorem FsH.st (h : FsH w bC gN gS gB lo c ai ci a2 cp am cm now sure since wr) (hc : Cw c k now sure since) : FsSt w bC gN gS gB c ai ci a2 cp am cm k now sure since wr :=
 ⟨⟨h.var,h.nice,h.rd.wide (Nat.zero_le _) (Nat.le_refl _) (Nat.le_refl _)⟩,h.mc,h.rNow,h.rSure,h.rSince,h.n1,h.n2,h.n3,h.n4,h.n5,h.n6,h.l1,h.l2,h.l3,h.l4,hc,h.below⟩
theorem FsSt.put (h : FsSt w bC gN gS gB c ai ci a2 cp am cm k now sure since wr) (h1 : bC < lo) (h2 : gN < lo) (h3 : gS < lo) (h4 : gB < lo) (hR : CRd lo wr.heap.size wr ai' a2' am' c'.ys c'.f.qs c'.f.ps) (hn : NiceC c') (hm : c'.f.ps.length <= cm') :
  FsH w bC gN gS gB lo c' ai' ci' a2' cp' am' cm' now sure since (((((((wr.setCell ⟨bC,0,none⟩ (.int .i64 c'.rm)).setCell ⟨bC,1,none⟩ (.slice ai' c'.ys.length ci')).setCell ⟨bC,2,none⟩ (.int .i64 c'.f.z)).setCell ⟨bC,3,none⟩ (.slice a2' c'.f.qs.length cp')).setCell ⟨bC,4,none⟩ (.slice am' c'.f.ps.length cm')).setCell ⟨bC,5,none⟩ (.int .i64 c'.f.op)).setCell ⟨bC,6,none⟩ (.int .i64 c'.f.st)) := by
 have hA := seven_aside (b := bC) (Aside.refl bC (bC + 1) wr) (Nat.le_refl _) (Nat.lt_succ_self _) (.int .i64 c'.rm) (.slice ai' c'.ys.length ci') (.int .i64 c'.f.z) (.slice a2' c'.f.qs.length cp') (.slice am' c'.f.ps.length cm') (.int .i64 c'.f.op) (.int .i64 c'.f.st)
 have hs := hA.size
 have n1 := h.n1
 have n2 := h.n2
 have n3 := h.n3
 have hrd := (hR.aside hA (.inl (by omega))).wide (Nat.le_refl _) hs (Nat.le_refl _)
 exact ⟨seven_set h.kst.k _ _ _ _ _ _ _,hn,hrd,hm,row_asd h.rNow hA (by omega),row_asd h.rSure hA (by omega),row_asd h.rSince hA (by omega),h.n1,h.n2,h.n3,h.n4,h.n5,h.n6,h.l1,h.l2,h.l3,h.l4,h1,h2,h3,h4,h.below.trans (hA.below (B := w.heap.size) h.l1 h.below.size)⟩
theorem FsH.setNow (h : FsH w bC gN gS gB lo c ai ci a2 cp am cm now sure since wr) (A : Nat) (tx : ByteArray) : FsH w bC gN gS gB lo c ai ci a2 cp am cm (setL now A tx) sure since (wr.setCell ⟨gN,A,none⟩ (.string tx)) := by
 have hA := (Aside.refl gN (gN + 1) wr).setCell (p := ⟨gN,A,none⟩) (Nat.le_refl _) (Nat.lt_succ_self _) (.string tx)
 have n1 := h.n1
 have n4 := h.n4
 have n5 := h.n5
 have h2 := h.h2
 refine ⟨aside_block hA h.var (by omega),h.nice,(h.rd.aside hA (.inl (by omega))).wide (Nat.le_refl _) hA.size (Nat.le_refl _),h.mc,(h.rNow.set A (.string tx)).congr (fun j _ => ?_),row_asd h.rSure hA (by omega),row_asd h.rSince hA (by omega),h.n1,h.n2,h.n3,h.n4,h.n5,h.n6,h.l1,h.l2,h.l3,h.l4,h.h1,h.h2,h.h3,h.h4,h.below.trans (hA.below (B := w.heap.size) h.l2 h.below.size)⟩
 unfold setL
 split <;> rfl
theorem FsH.setSince (h : FsH w bC gN gS gB lo c ai ci a2 cp am cm now sure since wr) (A : Nat) : FsH w bC gN gS gB lo c ai ci a2 cp am cm now sure (setB since A true) (wr.setCell ⟨gB,A,none⟩ (.bool true)) := by
 have hA := (Aside.refl gB (gB + 1) wr).setCell (p := ⟨gB,A,none⟩) (Nat.le_refl _) (Nat.lt_succ_self _) (.bool true)
 have n3 := h.n3
 have n5 := h.n5
 have n6 := h.n6
 have h4 := h.h4
 refine ⟨aside_block hA h.var (by omega),h.nice,(h.rd.aside hA (.inl (by omega))).wide (Nat.le_refl _) hA.size (Nat.le_refl _),h.mc,row_asd h.rNow hA (by omega),row_asd h.rSure hA (by omega),(h.rSince.set A (.bool true)).congr (fun j _ => ?_),h.n1,h.n2,h.n3,h.n4,h.n5,h.n6,h.l1,h.l2,h.l3,h.l4,h.h1,h.h2,h.h3,h.h4,h.below.trans (hA.below (B := w.heap.size) h.l4 h.below.size)⟩
 unfold setB
 split <;> rfl
theorem FsH.copied (h : FsH w bC gN gS gB lo c ai ci a2 cp am cm now sure since wr) (hr : w'.rowIs gS 9 4 (fun j => .string (now j))) (hA : Aside gS (gS + 1) wr w') : FsH w bC gN gS gB lo c ai ci a2 cp am cm now now since w' := by
 have n2 := h.n2
 have n4 := h.n4
 have n6 := h.n6
 have h3 := h.h3
 exact ⟨aside_block hA h.var (by omega),h.nice,(h.rd.aside hA (.inl (by omega))).wide (Nat.le_refl _) hA.size (Nat.le_refl _),h.mc,row_asd h.rNow hA (by omega),hr,row_asd h.rSince hA (by omega),h.n1,h.n2,h.n3,h.n4,h.n5,h.n6,h.l1,h.l2,h.l3,h.l4,h.h1,h.h2,h.h3,h.h4,h.below.trans (hA.below (B := w.heap.size) h.l3 h.below.size)⟩
theorem FsH.made (h : FsH w bC gN gS gB lo c ai ci a2 cp am cm now now since wr) (hc : Cw c k now now (fun _ => false)) :
  FsSt w bC gN gS wr.heap.size c ai ci a2 cp am cm k now now (fun _ => false) (wr.alloc (.cells (madeCells #[.bool false] 4) 4)) := by
 have hb := (Below.refl wr.heap.size wr).alloc (Nat.le_refl _) (.cells (madeCells #[.bool false] 4) 4)
 have e1 : bC < wr.heap.size := (Array.getElem?_eq_some_iff.1 h.var).1
 have e2 := h.rNow.lt
 have e3 := h.rSure.lt
 have hbs := h.below.size
 have h9 := h.on hb
 exact ⟨⟨h9.var,h9.nice,h9.rd.wide (Nat.zero_le _) (Nat.le_refl _) (Nat.le_refl _)⟩,h9.mc,h9.rNow,h9.rSure,World.rowIs_made _ _ _ _,h.n1,h.n2,by omega,h.n4,by omega,by omega,h.l1,h.l2,h.l3,hbs,hc,h9.below⟩
end
end Go.Proofs.YtgjoepdfhadmcaaGreatDoor
end

section
namespace Go.Proofs.YtgjoepdfhadmcaaGreatDoor
open Go.RowKit
set_option linter.unusedVariables false
set_option linter.unusedSimpArgs false
set_option maxRecDepth 20000
theorem nf5_nice : (∀ y ∈ (newF 5 3 4).qs,sqFits y) ∧ (newF 5 3 4).qs.length <= 1048576 ∧ (newF 5 3 4).ps.length <= 1048576 := by
 have e : newF 5 3 4 = ⟨3,List.replicate 5 ([],0,false),List.replicate 4 (-1,0),-1,0⟩ := by rfl
 obtain ⟨k1,_,_⟩ := new_room (z := 3) (Q := 5) (N := 4) (by omega) (by omega) (by omega) (by omega) (by omega) (by omega) (by omega)
 rw [e]
 exact ⟨chipOk_fits (mapOk_chip (ftlOk_map k1)),by simp,by simp⟩
theorem Tryz.infoBl : (Tryz.prog.info? 4).map (fun i => (i.zero,i.size,i.bytes)) = some (some (.bool false),1,1) := by kernel_rfl
theorem Tryz.sizeStrF : (Tryz.prog.info? 9).map (·.size) = some 1 := by kernel_rfl
theorem kDropM {b : Nat} {c : Cv} {ai : Option Addr} {ci : Nat} {a2 : Option Addr} {cp : Nat} {am : Option Addr} {cm : Nat} {w : World} (h : KSt b c ai ci a2 cp am cm w) {aB aL aS aC aF : Addr} (hcm : c.f.ps.length <= cm) (hT : Tab w) (E : Errs w aB aL aS aC aF) : Calls Tryz.prog 50 #[.agg #[.int .i64 c.rm,.slice ai c.ys.length ci,.int .i64 c.f.z,.slice a2 c.f.qs.length cp,.slice am c.f.ps.length cm,.int .i64 c.f.op,.int .i64 c.f.st]] w fun e w' => ∃ v,e = .returned v ∧ ToldM w (dropF c) v w' := by
 refine (implDropped_any c.rm ai c.ys.length ci c.ys c.f.z a2 c.f.qs.length cp c.f.qs am c.f.ps.length cm c.f.ps c.f.op c.f.st w h.rd.helds h.rd.hi_le h.nice.y1 h.nice.yf h.rd.squares h.rd.hi_le h.nice.n1 h.nice.fits h.rd.places h.rd.hi_le h.nice.m1 hcm hT E).mono ?_
 rintro e w' ⟨v,rfl,hv⟩
 exact ⟨v,rfl,toldM_of hv⟩
structure FlNew (w : World) (bC : Nat) (c : Cv) (ai : Option Addr) (ci : Nat) (a2 : Option Addr) (cp : Nat) (am : Option Addr) (cm : Nat) (wr : World) : Prop where
 kst : KSt bC c ai ci a2 cp am cm wr
 mc : c.f.ps.length <= cm
 lb : w.heap.size <= bC
 cw : Cw c 0 (fun _ => ByteArray.empty) (fun _ => ByteArray.empty) (fun _ => false)
 below : Below w.heap.size w wr
theorem flNew_made {w wr : World} {bC : Nat} {c : Cv} {ai : Option Addr} {ci : Nat} {a2 : Option Addr} {cp : Nat} {am : Option Addr} {cm : Nat} (h : FlNew w bC c ai ci a2 cp am cm wr) {w1 w2 w3 : World} {gN gS gB : Nat} (h1 : w1 = wr.alloc (.cells (madeCells #[.string ByteArray.empty] 4) 9)) (h2 : w2 = w1.alloc (.cells (madeCells #[.string ByteArray.empty] 4) 9)) (h3 : w3 = w2.alloc (.cells (madeCells #[.bool false] 4) 4)) (e1 : gN = wr.heap.size) (e2 : gS = w1.heap.size) (e3 : gB = w2.heap.size) :
  FsSt w bC gN gS gB c ai ci a2 cp am cm 0 (fun _ => ByteArray.empty) (fun _ => ByteArray.empty) (fun _ => false) w3 := by
 have b1 : Below wr.heap.size wr w1 := by rw [h1]; exact (Below.refl _ _).alloc (Nat.le_refl _) _
 have b2 : Below w1.heap.size w1 w2 := by rw [h2]; exact (Below.refl _ _).alloc (Nat.le_refl _) _
 have b3 : Below w2.heap.size w2 w3 := by rw [h3]; exact (Below.refl _ _).alloc (Nat.le_refl _) _
 have s1 : w1.heap.size = wr.heap.size + 1 := by rw [h1]; simp
 have s2 : w2.heap.size = w1.heap.size + 1 := by rw [h2]; simp
 have hb : bC < wr.heap.size := (Array.getElem?_eq_some_iff.1 h.kst.k).1
 have r1 : w1.rowIs gN 9 4 (fun _ => .string ByteArray.empty) := by rw [h1,e1]; exact World.rowIs_made _ _ _ _
 have r2 : w2.rowIs gS 9 4 (fun _ => .string ByteArray.empty) := by rw [h2,e2]; exact World.rowIs_made _ _ _ _
 have r3 : w3.rowIs gB 4 4 (fun _ => .bool false) := by rw [h3,e3]; exact World.rowIs_made _ _ _ _
 have hs := h.below.size
 have hl := h.lb
 exact ⟨((h.kst.on b1).on b2).on b3,h.mc,row_on (row_on r1 b2) b3,row_on r2 b3,r3,by omega,by omega,by omega,by omega,by omega,by omega,hl,by omega,by omega,by omega,h.cw,below_here (below_here (below_here h.below b1) b2) b3⟩
set_option maxHeartbeats 8000000 in
set_option maxRecDepth 100000 in
theorem fnFlushed_any (a0 : Option Addr) (len0 cap0 : Nat) (l : List UInt8) (w : World) (hA : Bytes 0 w.heap.size w a0 len0 l) (hlen : len0 <= 9223372036854775807) (hT : Tab w) {aB aL aS aC aF aN : Addr} (E : Errs w aB aL aS aC aF) (hN : w.cell? ⟨1,0,none⟩ = some (noRoomV aN)) :
  Calls Tryz.prog 7 #[.slice a0 len0 cap0] w fun e w' => e = .returned (.bool true) ∧ Below w.heap.size w w' := by
 by_cases hbig : 4096 < len0
 case pos =>
  have hb' : decide (4096 < len0) = true := by simpa using hbig
  go_enter Tryz.func7,Tryz.ntmps7
  go_wp2_with fail
  refine (big_any a0 len0 cap0 w hlen).mono ?_
  rintro e w1 ⟨rfl,rfl⟩
  go_wp2_with fail
  go_ret
  exact ⟨rfl,Below.refl _ _⟩
 have hb' : decide (4096 < len0) = false := by simpa using hbig
 have hn4 : len0 <= 4096 := by omega
 clear hbig
 have HA := hide hA
 have HT := hide hT
 have HE := hide E
 have hgN : 1 < w.heap.size := cell_ltE hN
 have HN0 : ∀ w9,Hid (Below w.heap.size w w9 -> w9.cell? ⟨1,0,none⟩ = some (noRoomV aN)) := fun w9 h9 => (h9.cell (p := ⟨1,0,none⟩) hgN).trans hN
 clear hA hT E hN hgN
 go_enter Tryz.func7,Tryz.ntmps7
 go_wp2_with fail
 refine (big_any a0 len0 cap0 w hlen).mono ?_
 rintro e w1 ⟨rfl,rfl⟩
 go_wp2_with fail
 refine (specNewFtl_any 5 3 4 w).mono ?_
 have HNF := hide nf5_nice
 have HNC := hide (fun (rm : Int) (h1 : 1 <= rm) (h2 : rm <= 16) => cw_new (rm := rm) h1 h2)
 generalize newF 5 3 4 = f at HNF HNC ⊢
 generalize nfOk 5 3 4 = bn
 rintro e w1 ⟨v,rfl,a,c,am,cm,rfl,hO,b1,hcm⟩
 unfold fvV
 obtain ⟨wX,hwX⟩ : ∃ wX,wX = w1.alloc (.cells #[.int .i64 f.z,.slice a f.qs.length c,.slice am f.ps.length cm,.int .i64 f.op,.int .i64 f.st] 29) := ⟨_,rfl⟩
 have hbX : Below w1.heap.size w1 wX := by rw [hwX]; exact (Below.refl _ _).alloc (Nat.le_refl _) _
 have HF1 : Hid (FSt w1.heap.size f a f.qs.length c am f.ps.length cm wX) := hide (fst_own hO HNF.out.1 HNF.out.2.1 HNF.out.2.2 hcm hbX (by rw [hwX]; exact heap_new _ _))
 have HB1 := hide (below_here b1 hbX)
 clear hO b1 hcm hbX
 go_upto_region 4 with fail
 rw [<- hwX]
 clear hwX
 have cP : ∀ w9,Hid (Below w.heap.size w w9 -> Calls Tryz.prog 27 #[.slice a0 len0 cap0,.int .i64 1,.int .i64 4] w9 fun e w' => ∃ x : Int,e = .returned (.int .i64 x) ∧ 0 <= x ∧ x < 4 ∧ w9 = w') := fun w9 h9 => pick_any a0 len0 cap0 l 1 4 w9 (HA.out.later h9 (Nat.le_refl _)) hn4 (by omega) (by omega) (by omega) (by omega)
 have cN : ∀ (y : Int),0 <= y -> y < 4 -> ∀ w9,Hid (Below w.heap.size w w9 -> FSt w1.heap.size f a f.qs.length c am f.ps.length cm w9 -> Calls Tryz.prog 43 #[.agg #[.int .i64 f.z,.slice a f.qs.length c,.slice am f.ps.length cm,.int .i64 f.op,.int .i64 f.st],.int .i64 (IntKind.i64.wrap (1 + y))] w9 fun e w' => ∃ v,e = .returned (.tuple #[v,.bool true]) ∧ ∃ x,Cw x 0 (fun _ => ByteArray.empty) (fun _ => ByteArray.empty) (fun _ => false) ∧ NiceC x ∧ ToldM w9 x v w') := fun y hy0 hy1 w9 h9 k9 => by
  have e1 : IntKind.i64.wrap (1 + y) = 1 + y := by rw [IntKind.wrap_i64]; omega
  rw [e1]
  obtain ⟨n1,n2⟩ := HNC.out (1 + y) (by omega) (by omega)
  refine (kNew k9 (1 + y) (HT.out.here h9) (HE.out.here h9)).mono ?_
  rintro e w' ⟨v,rfl,hv⟩
  exact ⟨v,by rw [n1],_,n2,nice_new f (1 + y),hv⟩
 clear HNF HNC
 have HI0 : Hid (FSt w1.heap.size f a f.qs.length c am f.ps.length cm wX.drew ∧ Below w.heap.size w wX.drew) := hide ⟨HF1.out.on (Below.refl _ wX).drew,below_here HB1.out (Below.refl _ wX).drew⟩
 have bZ : Below wX.heap.size wX (wX.alloc (.cells #[.int .i64 0,.slice none 0 0,.int .i64 0,.slice none 0 0,.slice none 0 0,.int .i64 0,.int .i64 0] 65)).drew := ((Below.refl _ wX).alloc (Nat.le_refl _) _).drew
 have HIa : Hid (FSt w1.heap.size f a f.qs.length c am f.ps.length cm (wX.alloc (.cells #[.int .i64 0,.slice none 0 0,.int .i64 0,.slice none 0 0,.slice none 0 0,.int .i64 0,.int .i64 0] 65)).drew ∧ Below w.heap.size w (wX.alloc (.cells #[.int .i64 0,.slice none 0 0,.int .i64 0,.slice none 0 0,.slice none 0 0,.int .i64 0,.int .i64 0] 65)).drew) := hide ⟨HF1.out.on bZ,below_here HB1.out bZ⟩
 have HEa : Hid ((wX.alloc (.cells #[.int .i64 0,.slice none 0 0,.int .i64 0,.slice none 0 0,.slice none 0 0,.int .i64 0,.int .i64 0] 65)).drew.heap[wX.heap.size]? = some (.cells #[.int .i64 0,.slice none 0 0,.int .i64 0,.slice none 0 0,.slice none 0 0,.int .i64 0,.int .i64 0] 65)) := heap_new wX _
 have HC0 : Hid (wX.drew.cell? ⟨w1.heap.size,0,none⟩ = some (.int .i64 f.z) ∧ wX.drew.cell? ⟨w1.heap.size,1,none⟩ = some (.slice a f.qs.length c) ∧ wX.drew.cell? ⟨w1.heap.size,2,none⟩ = some (.slice am f.ps.length cm) ∧ wX.drew.cell? ⟨w1.heap.size,3,none⟩ = some (.int .i64 f.op) ∧ wX.drew.cell? ⟨w1.heap.size,4,none⟩ = some (.int .i64 f.st)) := hide (five_cells HI0.out.1.k)
 have HCa : Hid ((wX.alloc (.cells #[.int .i64 0,.slice none 0 0,.int .i64 0,.slice none 0 0,.slice none 0 0,.int .i64 0,.int .i64 0] 65)).drew.cell? ⟨w1.heap.size,0,none⟩ = some (.int .i64 f.z) ∧ (wX.alloc (.cells #[.int .i64 0,.slice none 0 0,.int .i64 0,.slice none 0 0,.slice none 0 0,.int .i64 0,.int .i64 0] 65)).drew.cell? ⟨w1.heap.size,1,none⟩ = some (.slice a f.qs.length c) ∧ (wX.alloc (.cells #[.int .i64 0,.slice none 0 0,.int .i64 0,.slice none 0 0,.slice none 0 0,.int .i64 0,.int .i64 0] 65)).drew.cell? ⟨w1.heap.size,2,none⟩ = some (.slice am f.ps.length cm) ∧ (wX.alloc (.cells #[.int .i64 0,.slice none 0 0,.int .i64 0,.slice none 0 0,.slice none 0 0,.int .i64 0,.int .i64 0] 65)).drew.cell? ⟨w1.heap.size,3,none⟩ = some (.int .i64 f.op) ∧ (wX.alloc (.cells #[.int .i64 0,.slice none 0 0,.int .i64 0,.slice none 0 0,.slice none 0 0,.int .i64 0,.int .i64 0] 65)).drew.cell? ⟨w1.heap.size,4,none⟩ = some (.int .i64 f.st)) := hide (five_cells HIa.out.1.k)
 have hwX : w.heap.size <= wX.heap.size := HB1.out.size
 have hx1 : w1.heap.size < wX.heap.size := (Array.getElem?_eq_some_iff.1 HF1.out.k).1
 clear bZ
 go_cut [5,6] (fun v u wx => u = .bool true ∧ ∃ (bC : Nat) (x : Cv) (ax : Option Addr) (cx : Nat) (a2 : Option Addr) (cp : Nat) (am2 : Option Addr) (cm2 : Nat),v = .pointer (some ⟨bC,0,none⟩) ∧ FlNew w bC x ax cx a2 cp am2 cm2 wx)
 case first =>
  go_region_held3 (fun w' => w'.cell? ⟨w1.heap.size,0,none⟩ = some (.int .i64 f.z) ∧ w'.cell? ⟨w1.heap.size,1,none⟩ = some (.slice a f.qs.length c) ∧ w'.cell? ⟨w1.heap.size,2,none⟩ = some (.slice am f.ps.length cm) ∧ w'.cell? ⟨w1.heap.size,3,none⟩ = some (.int .i64 f.op) ∧ w'.cell? ⟨w1.heap.size,4,none⟩ = some (.int .i64 f.st))
   (with_reducible (first | exact HC0.out | exact HCa.out | exact HC4.out | exact HC5.out | exact HC6.out | exact HC7.out | fail))
   (first
    | (go_at_call 27; refine ((cP _).out HI0.out.2).mono ?_; rintro e w8 ⟨y,rfl,y0,y1,rfl⟩)
    | (go_at_call 27; refine ((cP _).out HIa.out.2).mono ?_; rintro e w8 ⟨y,rfl,y0,y1,rfl⟩)
    | (go_at_call 43; refine ((cN y y0 y1 _).out HI0.out.2 HI0.out.1).mono ?_; rintro e w4 ⟨v,rfl,x,hcw,hni,hv⟩; obtain ⟨ax,cx,a2,cp,am2,cm2,rfl,hR,bd,hmc⟩ := hv; have hbd := below_here HI0.out.2 bd; have HC4 := hide (five_cells (HI0.out.1.on bd).k); have bN := (Below.refl w4.heap.size w4).alloc (Nat.le_refl _) (.cells #[.int .i64 x.rm,.slice ax x.ys.length cx,.int .i64 x.f.z,.slice a2 x.f.qs.length cp,.slice am2 x.f.ps.length cm2,.int .i64 x.f.op,.int .i64 x.f.st] 65); have HC5 := hide (five_cells ((HI0.out.1.on bd).on bN).k); have bZ4 := (Below.refl w4.heap.size w4).alloc (Nat.le_refl _) (.cells #[.int .i64 0,.slice none 0 0,.int .i64 0,.slice none 0 0,.slice none 0 0,.int .i64 0,.int .i64 0] 65); have HC6 := hide (five_cells ((HI0.out.1.on bd).on bZ4).k); have HFN := hide (FlNew.mk (kst_rd hR hni bN (heap_new w4 (.cells #[.int .i64 x.rm,.slice ax x.ys.length cx,.int .i64 x.f.z,.slice a2 x.f.qs.length cp,.slice am2 x.f.ps.length cm2,.int .i64 x.f.op,.int .i64 x.f.st] 65))) hmc (show w.heap.size <= w4.heap.size from hbd.size) hcw (below_here hbd bN)); clear bN bZ4 hR bd hmc hcw hni hbd)
    | (go_at_call 43; refine ((cN y y0 y1 _).out HIa.out.2 HIa.out.1).mono ?_; rintro e w4 ⟨v,rfl,x,hcw,hni,hv⟩; obtain ⟨ax,cx,a2,cp,am2,cm2,rfl,hR,bd,hmc⟩ := hv; have hbd := below_here HIa.out.2 bd; have HC4 := hide (five_cells (HIa.out.1.on bd).k); have HE4 := hide (block_on HEa.out bd); have hxz : (wX.alloc (.cells #[.int .i64 0,.slice none 0 0,.int .i64 0,.slice none 0 0,.slice none 0 0,.int .i64 0,.int .i64 0] 65)).drew.heap.size = wX.heap.size + 1 := (by simp); obtain ⟨p0,p1,p2,p3,p4,p5,p6⟩ := seven_cells HE4.out; have f0 := four_frozen HE4.out 0; have f1 := four_frozen HE4.out 1; have f2 := four_frozen HE4.out 2; have f3 := four_frozen HE4.out 3; have f4 := four_frozen HE4.out 4; have f5 := four_frozen HE4.out 5; have f6 := four_frozen HE4.out 6; have hA7 := seven_aside (b := wX.heap.size) (Aside.refl wX.heap.size (wX.heap.size + 1) w4) (Nat.le_refl _) (Nat.lt_succ_self _) (.int .i64 x.rm) (.slice ax x.ys.length cx) (.int .i64 x.f.z) (.slice a2 x.f.qs.length cp) (.slice am2 x.f.ps.length cm2) (.int .i64 x.f.op) (.int .i64 x.f.st); have HC7 := hide (five_cells (aside_block hA7 (HIa.out.1.on bd).k (by omega))); have HFN := hide (FlNew.mk ⟨seven_set HE4.out (.int .i64 x.rm) (.slice ax x.ys.length cx) (.int .i64 x.f.z) (.slice a2 x.f.qs.length cp) (.slice am2 x.f.ps.length cm2) (.int .i64 x.f.op) (.int .i64 x.f.st),hni,(hR.aside hA7 (.inl (by omega))).wide (Nat.zero_le _) hA7.size (Nat.le_refl _)⟩ hmc hwX hcw (hbd.trans (hA7.below (B := w.heap.size) hwX hbd.size))); clear hA7 hxz hR bd hmc hcw hni hbd)
    | fail)
  all_goals
   go_wp2_with fail
   go_meet
   exact ⟨rfl,_,_,_,_,_,_,_,_,rfl,HFN.out⟩
 obtain ⟨rfl,bC,x,ax,cx,a2,cp,am2,cm2,rfl,hFN⟩ := hcut
 have HFN := hide hFN
 clear hFN cP cN HI0 HIa HEa HC0 HCa hwX hx1 HF1 HB1
 obtain ⟨w5,hw5⟩ : ∃ w5,w5 = wc := ⟨_,rfl⟩
 subst hw5
 have hmkS : ∀ W : World,(Instr.makeSlice 40 (.int .i64 4) (.int .i64 4)).run Tryz.prog W = .ok (.slice (some ⟨W.heap.size,0,none⟩) 4 4) (W.alloc (.cells (madeCells #[.string ByteArray.empty] 4) 9)) := fun W => run_make_row' (P := Tryz.prog) 40 9 (.string ByteArray.empty) 16 Tryz.underlying40 Tryz.infoStrC rfl .i64 .i64 4 (by omega) (by omega) W
 have hmkB : ∀ W : World,(Instr.makeSlice 84 (.int .i64 4) (.int .i64 4)).run Tryz.prog W = .ok (.slice (some ⟨W.heap.size,0,none⟩) 4 4) (W.alloc (.cells (madeCells #[.bool false] 4) 4)) := fun W => run_make_row' (P := Tryz.prog) 84 4 (.bool false) 1 Tryz.underlying84 Tryz.infoBl rfl .i64 .i64 4 (by omega) (by omega) W
 obtain ⟨w6,hw6⟩ : ∃ w6,w6 = w5.alloc (.cells (madeCells #[.string ByteArray.empty] 4) 9) := ⟨_,rfl⟩
 obtain ⟨w7,hw7⟩ : ∃ w7,w7 = w6.alloc (.cells (madeCells #[.string ByteArray.empty] 4) 9) := ⟨_,rfl⟩
 obtain ⟨w8,hw8⟩ : ∃ w8,w8 = w7.alloc (.cells (madeCells #[.bool false] 4) 4) := ⟨_,rfl⟩
 have HL := hide (flNew_made (gN := w5.heap.size) (gS := w5.heap.size + 1) (gB := w5.heap.size + 1 + 1) HFN.out hw6 hw7 hw8 rfl (by rw [hw6]; simp) (by rw [hw7,hw6]; simp))
 go_upto_region 10 with fail
 rw [<- hw6,<- hw7,<- hw8]
 clear hw6 hw7
 obtain ⟨gN,hgN⟩ : ∃ g,g = w5.heap.size := ⟨_,rfl⟩
 rw [<- hgN] at HL ⊢
 obtain ⟨gS,hgS⟩ : ∃ g,g = gN + 1 := ⟨_,rfl⟩
 rw [<- hgS] at HL ⊢
 obtain ⟨gB,hgB⟩ : ∃ g,g = gS + 1 := ⟨_,rfl⟩
 rw [<- hgB] at HL ⊢
 clear hgN hgS hgB hw8 HFN hmkS
 go_wp2_with fail
 go_loopw [9,10] (fun sv t wr => ∃ (n k gB : Nat) (c : Cv) (ai : Option Addr) (ci : Nat) (a2 : Option Addr) (cp : Nat) (am : Option Addr) (cm : Nat) (now sure : Nat -> ByteArray) (since : Nat -> Bool),sv = .slice (some ⟨gB,0,none⟩) 4 4 ∧ t = .int .i64 (n : Int) ∧ n <= 24 ∧ k <= 17 * n ∧ FsSt w bC gN gS gB c ai ci a2 cp am cm k now sure since wr) (fun _ t _ => 24 - (intOf t).toNat)
 case atStart => exact ⟨0,0,gB,_,_,_,_,_,_,_,_,_,_,rfl,rfl,by omega,by omega,HL.out⟩
 case round =>
  obtain ⟨n,k,gB',c,ai,ci,a2,cp,am,cm,now,sure,since,rfl,rfl,hn,hk,hS⟩ := hrel
  have HS := hide hS
  clear hS HL
  by_cases hlt : n < 24
  ·have hlt2 : (n : Int) < 24 := by omega
   have hw10 : IntKind.i64.wrap (10 + (n : Int)) = 10 + (n : Int) := by rw [IntKind.wrap_i64]; omega
   have hw60 : IntKind.i64.wrap (60 + (n : Int)) = 60 + (n : Int) := by rw [IntKind.wrap_i64]; omega
   go_wp2_with fail
   refine (pick_any a0 len0 cap0 l (10 + (n : Int)) 4 wr (HA.out.later HS.out.below (Nat.le_refl _)) hn4 (by omega) (by omega) (by omega) (by omega)).mono ?_
   rintro e w9 ⟨y,rfl,y0,y1,rfl⟩
   obtain ⟨A,rfl⟩ : ∃ A : Nat,y = (A : Int) := ⟨y.toNat,by omega⟩
   have hA4 : A < 4 := by omega
   clear y1
   go_wp2_with fail
   refine (pick_any a0 len0 cap0 l (60 + (n : Int)) 5 wr (HA.out.later HS.out.below (Nat.le_refl _)) hn4 (by omega) (by omega) (by omega) (by omega)).mono ?_
   rintro e w9 ⟨u,rfl,u0,u1,rfl⟩
   clear hw10 hw60
   by_cases hu0 : u = 0
   ·have hub : (u == 0) = true := by rw [hu0]; rfl
    obtain ⟨e1,hcw⟩ := cw_flush HS.out.cw (by omega)
    have HCW := hide hcw
    have HNI := hide (nice_flush c)
    have HCE : Hid (Calls Tryz.prog 41 #[.agg #[.int .i64 c.rm,.slice ai c.ys.length ci,.int .i64 c.f.z,.slice a2 c.f.qs.length cp,.slice am c.f.ps.length cm,.int .i64 c.f.op,.int .i64 c.f.st]] wr fun e w' => ∃ v,e = .returned (.tuple #[v,.bool true]) ∧ ToldM wr (flushF c) v w') := by
     have h := kFlush HS.out.kst HS.out.mc (HT.out.here HS.out.below) (HE.out.here HS.out.below) ((HN0 _).out HS.out.below)
     rw [e1] at h
     exact hide h
    clear e1 hcw
    generalize flushF c = c' at HCW HNI HCE
    obtain ⟨c0,c1,c2,c3,c4,c5,c6⟩ := seven_cells HS.out.kst.k
    go_wp2_with fail
    refine HCE.out.mono ?_
    rintro e w4 ⟨v,rfl,ai',ci',a2',cp',am',cm',rfl,hR,bd,hcm⟩
    clear c0 c1 c2 c3 c4 c5 c6
    obtain ⟨w5,hw5⟩ : ∃ w5,w5 = w4.alloc (.cells #[.int .i64 c'.rm,.slice ai' c'.ys.length ci',.int .i64 c'.f.z,.slice a2' c'.f.qs.length cp',.slice am' c'.f.ps.length cm',.int .i64 c'.f.op,.int .i64 c'.f.st] 65) := ⟨_,rfl⟩
    have hb5 : Below w4.heap.size w4 w5 := by rw [hw5]; exact (Below.refl _ _).alloc (Nat.le_refl _) _
    have HX5 : Hid (w5.heap[w4.heap.size]? = some (.cells #[.int .i64 c'.rm,.slice ai' c'.ys.length ci',.int .i64 c'.f.z,.slice a2' c'.f.qs.length cp',.slice am' c'.f.ps.length cm',.int .i64 c'.f.op,.int .i64 c'.f.st] 65)) := by rw [hw5]; exact heap_new _ _
    have HS5 := hide ((HS.out.on bd).on hb5)
    have HR5 := hide ((hR.later hb5 (Nat.le_refl _)).wide (Nat.le_refl _) hb5.size (Nat.le_refl _))
    have hm5 := bd.size
    have HCM := hide hcm
    have q1 : bC < wr.heap.size := (Array.getElem?_eq_some_iff.1 HS.out.kst.k).1
    have q2 := HS.out.rNow.lt
    have q3 := HS.out.rSure.lt
    have q4 := HS.out.rSince.lt
    clear hR bd hb5 hcm HCE HS
    go_upto_region 25 with fail
    rw [<- hw5]
    clear hw5
    obtain ⟨c0,c1,c2,c3,c4,c5,c6⟩ := seven_cells HS5.out.kst.k
    obtain ⟨x0,x1,x2,x3,x4,x5,x6⟩ := seven_cells HX5.out
    have f0 := four_frozen HS5.out.kst.k 0
    have f1 := four_frozen HS5.out.kst.k 1
    have f2 := four_frozen HS5.out.kst.k 2
    have f3 := four_frozen HS5.out.kst.k 3
    have f4 := four_frozen HS5.out.kst.k 4
    have f5 := four_frozen HS5.out.kst.k 5
    have f6 := four_frozen HS5.out.kst.k 6
    have HH := hide (FsSt.put (ci' := ci') (cp' := cp') (cm' := cm') HS5.out q1 q2 q3 q4 HR5.out HNI.out HCM.out)
    obtain ⟨w6,hw6⟩ : ∃ w6,w6 = (((((((w5.setCell ⟨bC,0,none⟩ (.int .i64 c'.rm)).setCell ⟨bC,1,none⟩ (.slice ai' c'.ys.length ci')).setCell ⟨bC,2,none⟩ (.int .i64 c'.f.z)).setCell ⟨bC,3,none⟩ (.slice a2' c'.f.qs.length cp')).setCell ⟨bC,4,none⟩ (.slice am' c'.f.ps.length cm')).setCell ⟨bC,5,none⟩ (.int .i64 c'.f.op)).setCell ⟨bC,6,none⟩ (.int .i64 c'.f.st)) := ⟨_,rfl⟩
    rw [<- hw6] at HH
    go_upto_region 26 with fail
    rw [<- hw6]
    clear hw6
    clear c0 c1 c2 c3 c4 c5 c6 x0 x1 x2 x3 x4 x5 x6 f0 f1 f2 f3 f4 f5 f6
    clear HS5 HX5 HR5 HNI HCM q1 q2 q3 q4 hm5
    obtain ⟨w7,hcp,hr7,hA7⟩ := copy_row (P := Tryz.prog) w6 40 40 3 9 Tryz.underlying40 Tryz.sizeStrF gS 0 4 4 4 9 _ (fun j => .string (now j)) HH.out.rSure (some ⟨gN,0,none⟩) 4 4 gN (gN + 1) (owned_of_row HH.out.rNow (Nat.le_refl _) (Nat.lt_succ_self _) HH.out.rNow.lt).reads 4 rfl (by omega) (fun _ _ => rfl)
    have HH7 := hide (HH.out.copied (hr7.congr (fun i hi => by rw [if_pos ⟨Nat.zero_le _,by omega⟩]; rfl)) hA7)
    clear hr7 hA7
    have HS8 := hide (HH7.out.made HCW.out)
    go_wp2_with fail
    exact ⟨⟨n + 1,k + 16,_,c',ai',ci',a2',cp',am',cm',_,_,_,rfl,by go_num,by omega,by omega,HS8.out⟩,by simp [intOf]; omega⟩
   have hub : (u == 0) = false := by simp [hu0]
   by_cases hu1 : u = 1
   ·have hub1 : (u == 1) = true := by rw [hu1]; rfl
    obtain ⟨e1,e2,hcw⟩ := cw_load HS.out.cw (by omega) hA4
    have HCW := hide hcw
    have HNI := hide (nice_load c (A : Int))
    have HCE : Hid (Calls Tryz.prog 39 #[.agg #[.int .i64 c.rm,.slice ai c.ys.length ci,.int .i64 c.f.z,.slice a2 c.f.qs.length cp,.slice am c.f.ps.length cm,.int .i64 c.f.op,.int .i64 c.f.st],.int .i64 (A : Int)] wr fun e w' => ∃ v,e = .returned (.tuple #[v,.string (now A),.bool true]) ∧ ToldM wr (loadF c (A : Int)) v w') := by
     have h := kLoad HS.out.kst (A : Int) HS.out.mc (HT.out.here HS.out.below) (HE.out.here HS.out.below) ((HN0 _).out HS.out.below)
     rw [e1,e2] at h
     exact hide h
    clear e1 e2 hcw
    generalize loadF c (A : Int) = c' at HCW HNI HCE
    obtain ⟨c0,c1,c2,c3,c4,c5,c6⟩ := seven_cells HS.out.kst.k
    go_wp2_with fail
    refine HCE.out.mono ?_
    rintro e w4 ⟨v,rfl,ai',ci',a2',cp',am',cm',rfl,hR,bd,hcm⟩
    clear c0 c1 c2 c3 c4 c5 c6
    obtain ⟨w5,hw5⟩ : ∃ w5,w5 = w4.alloc (.cells #[.int .i64 c'.rm,.slice ai' c'.ys.length ci',.int .i64 c'.f.z,.slice a2' c'.f.qs.length cp',.slice am' c'.f.ps.length cm',.int .i64 c'.f.op,.int .i64 c'.f.st] 65) := ⟨_,rfl⟩
    have hb5 : Below w4.heap.size w4 w5 := by rw [hw5]; exact (Below.refl _ _).alloc (Nat.le_refl _) _
    have HX5 : Hid (w5.heap[w4.heap.size]? = some (.cells #[.int .i64 c'.rm,.slice ai' c'.ys.length ci',.int .i64 c'.f.z,.slice a2' c'.f.qs.length cp',.slice am' c'.f.ps.length cm',.int .i64 c'.f.op,.int .i64 c'.f.st] 65)) := by rw [hw5]; exact heap_new _ _
    have HS5 := hide ((HS.out.on bd).on hb5)
    have HR5 := hide ((hR.later hb5 (Nat.le_refl _)).wide (Nat.le_refl _) hb5.size (Nat.le_refl _))
    have hm5 := bd.size
    have HCM := hide hcm
    have q1 : bC < wr.heap.size := (Array.getElem?_eq_some_iff.1 HS.out.kst.k).1
    have q2 := HS.out.rNow.lt
    have q3 := HS.out.rSure.lt
    have q4 := HS.out.rSince.lt
    clear hR bd hb5 hcm HCE HS
    go_upto_region 30 with fail
    rw [<- hw5]
    clear hw5
    obtain ⟨c0,c1,c2,c3,c4,c5,c6⟩ := seven_cells HS5.out.kst.k
    obtain ⟨x0,x1,x2,x3,x4,x5,x6⟩ := seven_cells HX5.out
    have f0 := four_frozen HS5.out.kst.k 0
    have f1 := four_frozen HS5.out.kst.k 1
    have f2 := four_frozen HS5.out.kst.k 2
    have f3 := four_frozen HS5.out.kst.k 3
    have f4 := four_frozen HS5.out.kst.k 4
    have f5 := four_frozen HS5.out.kst.k 5
    have f6 := four_frozen HS5.out.kst.k 6
    have HH := hide (FsSt.put (ci' := ci') (cp' := cp') (cm' := cm') HS5.out q1 q2 q3 q4 HR5.out HNI.out HCM.out)
    obtain ⟨w6,hw6⟩ : ∃ w6,w6 = (((((((w5.setCell ⟨bC,0,none⟩ (.int .i64 c'.rm)).setCell ⟨bC,1,none⟩ (.slice ai' c'.ys.length ci')).setCell ⟨bC,2,none⟩ (.int .i64 c'.f.z)).setCell ⟨bC,3,none⟩ (.slice a2' c'.f.qs.length cp')).setCell ⟨bC,4,none⟩ (.slice am' c'.f.ps.length cm')).setCell ⟨bC,5,none⟩ (.int .i64 c'.f.op)).setCell ⟨bC,6,none⟩ (.int .i64 c'.f.st)) := ⟨_,rfl⟩
    rw [<- hw6] at HH
    have n0 := HS5.out.rNow.cell hA4
    have hA0 : (0 : Int) <= (A : Int) := by omega
    have hAi : (A : Int) < 4 := by omega
    have hts := text_same (now A)
    go_wp2_with fail
    rw [<- hw6]
    clear hw6 n0 hts
    clear c0 c1 c2 c3 c4 c5 c6 x0 x1 x2 x3 x4 x5 x6 f0 f1 f2 f3 f4 f5 f6
    clear HS5 HX5 HR5 HNI HCM q1 q2 q3 q4 hm5
    exact ⟨⟨n + 1,k + 1,gB',c',ai',ci',a2',cp',am',cm',_,_,_,rfl,by go_num,by omega,by omega,HH.out.st HCW.out⟩,by simp [intOf]; omega⟩
   have hub1 : (u == 1) = false := by simp [hu1]
   have hds := digT_size n
   have cD : ∀ w9,Hid (Calls Tryz.prog 26 #[.int .i64 (n : Int)] w9 fun e w' => e = .returned (.string (digT n)) ∧ Below w9.heap.size w9 w') := fun w9 => hide (digits_is n (by omega) w9)
   generalize digT n = dg at hds cD
   obtain ⟨tx,htx⟩ : ∃ tx : ByteArray,tx = ({ data := #[107] } : ByteArray) ++ dg := ⟨_,rfl⟩
   have h107 : ({ data := #[107] } : ByteArray).size = 1 := rfl
   have htz : tx.size <= 24 := by rw [htx,ByteArray.size_append]; omega
   have hop1 : ∀ W,(Op.stringOp .add ⟨#[107]⟩ dg).run Tryz.prog W = .ok (.string tx) W := fun W => by rw [htx]; exact run_string_add_sum _ _ _ (by omega)
   clear htx
   obtain ⟨e1,hcw⟩ := cw_keep HS.out.cw (by omega) hA4 htz
   have HCW := hide hcw
   have HNI := hide (nice_keep c (A : Int) tx)
   have cK : ∀ w9,Hid (Below w.heap.size w w9 -> KSt bC c ai ci a2 cp am cm w9 -> Calls Tryz.prog 37 #[.agg #[.int .i64 c.rm,.slice ai c.ys.length ci,.int .i64 c.f.z,.slice a2 c.f.qs.length cp,.slice am c.f.ps.length cm,.int .i64 c.f.op,.int .i64 c.f.st],.int .i64 (A : Int),.string tx] w9 fun e w' => ∃ v,e = .returned (.tuple #[v,.bool true]) ∧ ToldM w9 (keepF c (A : Int) tx) v w') := fun w9 h9 k9 => by
    have h := kKeep k9 (A : Int) tx (by omega) HS.out.mc (HT.out.here h9) (HE.out.here h9) ((HN0 _).out h9)
    rw [e1] at h
    exact h
   clear e1 hcw
   generalize keepF c (A : Int) tx = c' at HCW HNI cK
   have hop : ∀ W : World,True := fun _ => trivial
   have q1 : bC < wr.heap.size := (Array.getElem?_eq_some_iff.1 HS.out.kst.k).1
   have q2 := HS.out.rNow.lt
   have q3 := HS.out.rSure.lt
   have q4 := HS.out.rSince.lt
   have bZ : Below wr.heap.size wr (wr.alloc (.cells #[.int .i64 0,.slice none 0 0,.int .i64 0,.slice none 0 0,.slice none 0 0,.int .i64 0,.int .i64 0] 65)).drew := ((Below.refl _ wr).alloc (Nat.le_refl _) _).drew
   have bD : Below wr.heap.size wr wr.drew := (Below.refl _ wr).drew
   have HI0 : Hid (KSt bC c ai ci a2 cp am cm wr.drew ∧ Below w.heap.size w wr.drew ∧ Below wr.heap.size wr wr.drew) := hide ⟨HS.out.kst.on bD,below_here HS.out.below bD,bD⟩
   have HIa : Hid (KSt bC c ai ci a2 cp am cm (wr.alloc (.cells #[.int .i64 0,.slice none 0 0,.int .i64 0,.slice none 0 0,.slice none 0 0,.int .i64 0,.int .i64 0] 65)).drew ∧ Below w.heap.size w (wr.alloc (.cells #[.int .i64 0,.slice none 0 0,.int .i64 0,.slice none 0 0,.slice none 0 0,.int .i64 0,.int .i64 0] 65)).drew ∧ Below wr.heap.size wr (wr.alloc (.cells #[.int .i64 0,.slice none 0 0,.int .i64 0,.slice none 0 0,.slice none 0 0,.int .i64 0,.int .i64 0] 65)).drew) := hide ⟨HS.out.kst.on bZ,below_here HS.out.below bZ,bZ⟩
   have HEa : Hid ((wr.alloc (.cells #[.int .i64 0,.slice none 0 0,.int .i64 0,.slice none 0 0,.slice none 0 0,.int .i64 0,.int .i64 0] 65)).drew.heap[wr.heap.size]? = some (.cells #[.int .i64 0,.slice none 0 0,.int .i64 0,.slice none 0 0,.slice none 0 0,.int .i64 0,.int .i64 0] 65)) := heap_new wr _
   have HC0 : Hid (wr.drew.cell? ⟨bC,0,none⟩ = some (.int .i64 c.rm) ∧ wr.drew.cell? ⟨bC,1,none⟩ = some (.slice ai c.ys.length ci) ∧ wr.drew.cell? ⟨bC,2,none⟩ = some (.int .i64 c.f.z) ∧ wr.drew.cell? ⟨bC,3,none⟩ = some (.slice a2 c.f.qs.length cp) ∧ wr.drew.cell? ⟨bC,4,none⟩ = some (.slice am c.f.ps.length cm) ∧ wr.drew.cell? ⟨bC,5,none⟩ = some (.int .i64 c.f.op) ∧ wr.drew.cell? ⟨bC,6,none⟩ = some (.int .i64 c.f.st)) := hide (seven_cells HI0.out.1.k)
   have HCa : Hid ((wr.alloc (.cells #[.int .i64 0,.slice none 0 0,.int .i64 0,.slice none 0 0,.slice none 0 0,.int .i64 0,.int .i64 0] 65)).drew.cell? ⟨bC,0,none⟩ = some (.int .i64 c.rm) ∧ (wr.alloc (.cells #[.int .i64 0,.slice none 0 0,.int .i64 0,.slice none 0 0,.slice none 0 0,.int .i64 0,.int .i64 0] 65)).drew.cell? ⟨bC,1,none⟩ = some (.slice ai c.ys.length ci) ∧ (wr.alloc (.cells #[.int .i64 0,.slice none 0 0,.int .i64 0,.slice none 0 0,.slice none 0 0,.int .i64 0,.int .i64 0] 65)).drew.cell? ⟨bC,2,none⟩ = some (.int .i64 c.f.z) ∧ (wr.alloc (.cells #[.int .i64 0,.slice none 0 0,.int .i64 0,.slice none 0 0,.slice none 0 0,.int .i64 0,.int .i64 0] 65)).drew.cell? ⟨bC,3,none⟩ = some (.slice a2 c.f.qs.length cp) ∧ (wr.alloc (.cells #[.int .i64 0,.slice none 0 0,.int .i64 0,.slice none 0 0,.slice none 0 0,.int .i64 0,.int .i64 0] 65)).drew.cell? ⟨bC,4,none⟩ = some (.slice am c.f.ps.length cm) ∧ (wr.alloc (.cells #[.int .i64 0,.slice none 0 0,.int .i64 0,.slice none 0 0,.slice none 0 0,.int .i64 0,.int .i64 0] 65)).drew.cell? ⟨bC,5,none⟩ = some (.int .i64 c.f.op) ∧ (wr.alloc (.cells #[.int .i64 0,.slice none 0 0,.int .i64 0,.slice none 0 0,.slice none 0 0,.int .i64 0,.int .i64 0] 65)).drew.cell? ⟨bC,6,none⟩ = some (.int .i64 c.f.st)) := hide (seven_cells HIa.out.1.k)
   clear bZ bD hop
   go_upto_region 15 with fail
   go_cut [17,18] (fun v u wx => u = .bool true ∧ ∃ (bx : Nat) (ai' : Option Addr) (ci' : Nat) (a2' : Option Addr) (cp' : Nat) (am' : Option Addr) (cm' : Nat),v = .pointer (some ⟨bx,0,none⟩) ∧ wx.heap[bx]? = some (.cells #[.int .i64 c'.rm,.slice ai' c'.ys.length ci',.int .i64 c'.f.z,.slice a2' c'.f.qs.length cp',.slice am' c'.f.ps.length cm',.int .i64 c'.f.op,.int .i64 c'.f.st] 65) ∧ CRd wr.heap.size wx.heap.size wx ai' a2' am' c'.ys c'.f.qs c'.f.ps ∧ c'.f.ps.length <= cm' ∧ Below wr.heap.size wr wx)
   case first =>
    go_region_held3 (fun w' => w'.cell? ⟨bC,0,none⟩ = some (.int .i64 c.rm) ∧ w'.cell? ⟨bC,1,none⟩ = some (.slice ai c.ys.length ci) ∧ w'.cell? ⟨bC,2,none⟩ = some (.int .i64 c.f.z) ∧ w'.cell? ⟨bC,3,none⟩ = some (.slice a2 c.f.qs.length cp) ∧ w'.cell? ⟨bC,4,none⟩ = some (.slice am c.f.ps.length cm) ∧ w'.cell? ⟨bC,5,none⟩ = some (.int .i64 c.f.op) ∧ w'.cell? ⟨bC,6,none⟩ = some (.int .i64 c.f.st))
     (with_reducible (first | exact HC0.out | exact HCa.out | exact HC1.out | exact HC1z.out | exact HC2.out | exact HC3.out | exact HC4.out | fail))
     (first
      | (go_at_call 26; refine ((cD wr.drew).out).mono ?_; rintro e g1 ⟨rfl,bd⟩; have HI1 := hide (And.intro (HI0.out.1.on bd) (And.intro (below_here HI0.out.2.1 bd) (below_here HI0.out.2.2 bd))); have HC1 := hide (seven_cells HI1.out.1.k); have bz := (Below.refl g1.heap.size g1).alloc (Nat.le_refl _) (.cells #[.int .i64 0,.slice none 0 0,.int .i64 0,.slice none 0 0,.slice none 0 0,.int .i64 0,.int .i64 0] 65); have HI1z := hide (And.intro (HI1.out.1.on bz) (And.intro (below_here HI1.out.2.1 bz) (below_here HI1.out.2.2 bz))); have HC1z := hide (seven_cells HI1z.out.1.k); have HE1z := hide (heap_new g1 (.cells #[.int .i64 0,.slice none 0 0,.int .i64 0,.slice none 0 0,.slice none 0 0,.int .i64 0,.int .i64 0] 65)); clear bd bz)
      | (go_at_call 26; refine ((cD (wr.alloc (.cells #[.int .i64 0,.slice none 0 0,.int .i64 0,.slice none 0 0,.slice none 0 0,.int .i64 0,.int .i64 0] 65)).drew).out).mono ?_; rintro e g1 ⟨rfl,bd⟩; have HI1 := hide (And.intro (HIa.out.1.on bd) (And.intro (below_here HIa.out.2.1 bd) (below_here HIa.out.2.2 bd))); have HC1 := hide (seven_cells HI1.out.1.k); have HE1 := hide (block_on HEa.out bd); clear bd)
      | (go_at_call 37; refine ((cK _).out HI1.out.2.1 HI1.out.1).mono ?_; rintro e g2 ⟨v,rfl,hv⟩; obtain ⟨ai',ci',a2',cp',am',cm',rfl,hR,bd,hmc⟩ := hv; have HI2 := hide (And.intro (HI1.out.1.on bd) (And.intro (below_here HI1.out.2.1 bd) (below_here HI1.out.2.2 bd))); have HC2 := hide (seven_cells HI2.out.1.k); have HE2 := hide (block_on HE1.out bd); have hbx := (Array.getElem?_eq_some_iff.1 HE1.out).1; have hlr : wr.heap.size <= wr.heap.size := Nat.le_refl _; have hsz := HI1.out.2.2.size; obtain ⟨p0,p1,p2,p3,p4,p5,p6⟩ := seven_cells HE2.out; have g10 := four_frozen HE2.out 0; have g11 := four_frozen HE2.out 1; have g12 := four_frozen HE2.out 2; have g13 := four_frozen HE2.out 3; have g14 := four_frozen HE2.out 4; have g15 := four_frozen HE2.out 5; have g16 := four_frozen HE2.out 6; have hA7 := seven_aside (b := wr.heap.size) (Aside.refl (wr.heap.size) (wr.heap.size + 1) g2) (Nat.le_refl _) (Nat.lt_succ_self _) (.int .i64 c'.rm) (.slice ai' c'.ys.length ci') (.int .i64 c'.f.z) (.slice a2' c'.f.qs.length cp') (.slice am' c'.f.ps.length cm') (.int .i64 c'.f.op) (.int .i64 c'.f.st); have HC3 := hide (seven_cells (aside_block hA7 HI2.out.1.k (by omega))); have HKO := hide (And.intro (seven_set HE2.out (.int .i64 c'.rm) (.slice ai' c'.ys.length ci') (.int .i64 c'.f.z) (.slice a2' c'.f.qs.length cp') (.slice am' c'.f.ps.length cm') (.int .i64 c'.f.op) (.int .i64 c'.f.st)) (And.intro ((hR.aside hA7 (.inl (by omega))).wide (by omega) hA7.size (Nat.le_refl _)) (And.intro hmc (HI2.out.2.2.trans (hA7.below (B := wr.heap.size) hlr (by have := HI2.out.2.2.size; omega)))))); clear hA7 hR bd hmc hbx)
      | (go_at_call 37; refine ((cK _).out HI1z.out.2.1 HI1z.out.1).mono ?_; rintro e g2 ⟨v,rfl,hv⟩; obtain ⟨ai',ci',a2',cp',am',cm',rfl,hR,bd,hmc⟩ := hv; have HI2 := hide (And.intro (HI1z.out.1.on bd) (And.intro (below_here HI1z.out.2.1 bd) (below_here HI1z.out.2.2 bd))); have HC2 := hide (seven_cells HI2.out.1.k); have HE2 := hide (block_on HE1z.out bd); have hbx := (Array.getElem?_eq_some_iff.1 HE1z.out).1; have hlr : wr.heap.size <= g1.heap.size := HI1.out.2.2.size; have hsz := HI1z.out.2.2.size; obtain ⟨p0,p1,p2,p3,p4,p5,p6⟩ := seven_cells HE2.out; have g10 := four_frozen HE2.out 0; have g11 := four_frozen HE2.out 1; have g12 := four_frozen HE2.out 2; have g13 := four_frozen HE2.out 3; have g14 := four_frozen HE2.out 4; have g15 := four_frozen HE2.out 5; have g16 := four_frozen HE2.out 6; have hA7 := seven_aside (b := g1.heap.size) (Aside.refl (g1.heap.size) (g1.heap.size + 1) g2) (Nat.le_refl _) (Nat.lt_succ_self _) (.int .i64 c'.rm) (.slice ai' c'.ys.length ci') (.int .i64 c'.f.z) (.slice a2' c'.f.qs.length cp') (.slice am' c'.f.ps.length cm') (.int .i64 c'.f.op) (.int .i64 c'.f.st); have HC3 := hide (seven_cells (aside_block hA7 HI2.out.1.k (by omega))); have HKO := hide (And.intro (seven_set HE2.out (.int .i64 c'.rm) (.slice ai' c'.ys.length ci') (.int .i64 c'.f.z) (.slice a2' c'.f.qs.length cp') (.slice am' c'.f.ps.length cm') (.int .i64 c'.f.op) (.int .i64 c'.f.st)) (And.intro ((hR.aside hA7 (.inl (by omega))).wide (by omega) hA7.size (Nat.le_refl _)) (And.intro hmc (HI2.out.2.2.trans (hA7.below (B := wr.heap.size) hlr (by have := HI2.out.2.2.size; omega)))))); clear hA7 hR bd hmc hbx)
      | (go_at_call 37; refine ((cK _).out HI1.out.2.1 HI1.out.1).mono ?_; rintro e g2 ⟨v,rfl,hv⟩; obtain ⟨ai',ci',a2',cp',am',cm',rfl,hR,bd,hmc⟩ := hv; have HI2 := hide (And.intro (HI1.out.1.on bd) (And.intro (below_here HI1.out.2.1 bd) (below_here HI1.out.2.2 bd))); have HC2 := hide (seven_cells HI2.out.1.k); have hs1 := HI1.out.2.2.size; have bz := (Below.refl g2.heap.size g2).alloc (Nat.le_refl _) (.cells #[.int .i64 0,.slice none 0 0,.int .i64 0,.slice none 0 0,.slice none 0 0,.int .i64 0,.int .i64 0] 65); have HC4 := hide (seven_cells (HI2.out.1.on bz).k); have bn := (Below.refl g2.heap.size g2).alloc (Nat.le_refl _) (.cells #[.int .i64 c'.rm,.slice ai' c'.ys.length ci',.int .i64 c'.f.z,.slice a2' c'.f.qs.length cp',.slice am' c'.f.ps.length cm',.int .i64 c'.f.op,.int .i64 c'.f.st] 65); have HC3 := hide (seven_cells (HI2.out.1.on bn).k); have HKO := hide (And.intro (heap_new g2 (.cells #[.int .i64 c'.rm,.slice ai' c'.ys.length ci',.int .i64 c'.f.z,.slice a2' c'.f.qs.length cp',.slice am' c'.f.ps.length cm',.int .i64 c'.f.op,.int .i64 c'.f.st] 65)) (And.intro ((hR.later bn (Nat.le_refl _)).wide (by omega) bn.size (Nat.le_refl _)) (And.intro hmc (below_here HI2.out.2.2 bn)))); clear hR bd hmc bz bn)
      | fail)
    all_goals
     go_wp2_with fail
     go_meet
     exact ⟨rfl,_,_,_,_,_,_,_,rfl,HKO.out.1,HKO.out.2.1,HKO.out.2.2.1,HKO.out.2.2.2⟩
   obtain ⟨rfl,bx,ai',ci',a2',cp',am',cm',rfl,hX,hR,hcm,hbw⟩ := hcut
   obtain ⟨w5,hw5⟩ : ∃ w5,w5 = wc := ⟨_,rfl⟩
   subst hw5
   have HX5 := hide hX
   have HS5 := hide (HS.out.on hbw)
   have HR5 := hide hR
   have HCM := hide hcm
   have hm5 := hbw.size
   clear hX hR hcm hbw HI0 HIa HEa HC0 HCa cK HS
   go_upto_region 18 with fail
   obtain ⟨c0,c1,c2,c3,c4,c5,c6⟩ := seven_cells HS5.out.kst.k
   obtain ⟨x0,x1,x2,x3,x4,x5,x6⟩ := seven_cells HX5.out
   have f0 := four_frozen HS5.out.kst.k 0
   have f1 := four_frozen HS5.out.kst.k 1
   have f2 := four_frozen HS5.out.kst.k 2
   have f3 := four_frozen HS5.out.kst.k 3
   have f4 := four_frozen HS5.out.kst.k 4
   have f5 := four_frozen HS5.out.kst.k 5
   have f6 := four_frozen HS5.out.kst.k 6
   have HH := hide (FsSt.put (ci' := ci') (cp' := cp') (cm' := cm') HS5.out q1 q2 q3 q4 HR5.out HNI.out HCM.out)
   obtain ⟨w6,hw6⟩ : ∃ w6,w6 = (((((((w5.setCell ⟨bC,0,none⟩ (.int .i64 c'.rm)).setCell ⟨bC,1,none⟩ (.slice ai' c'.ys.length ci')).setCell ⟨bC,2,none⟩ (.int .i64 c'.f.z)).setCell ⟨bC,3,none⟩ (.slice a2' c'.f.qs.length cp')).setCell ⟨bC,4,none⟩ (.slice am' c'.f.ps.length cm')).setCell ⟨bC,5,none⟩ (.int .i64 c'.f.op)).setCell ⟨bC,6,none⟩ (.int .i64 c'.f.st)) := ⟨_,rfl⟩
   rw [<- hw6] at HH
   go_upto_region 19 with fail
   rw [<- hw6]
   clear hw6
   clear c0 c1 c2 c3 c4 c5 c6 x0 x1 x2 x3 x4 x5 x6 f0 f1 f2 f3 f4 f5 f6
   clear HS5 HX5 HR5 HNI HCM q1 q2 q3 q4 hm5
   go_wp2_with fail
   refine ((cD _).out).mono ?_
   rintro e w7 ⟨rfl,b7⟩
   have HH7 := hide (HH.out.on b7)
   clear b7 HH cD
   have n0 := HH7.out.rNow.cell hA4
   have nf := HH7.out.rNow.frozen A
   have hA0 : (0 : Int) <= (A : Int) := by omega
   have hAi : (A : Int) < 4 := by omega
   obtain ⟨w8,hw8⟩ : ∃ w8,w8 = w7.setCell ⟨gN,A,none⟩ (.string tx) := ⟨_,rfl⟩
   have HH8 := hide (HH7.out.setNow A tx)
   rw [<- hw8] at HH8
   go_upto_region 20 with fail
   rw [<- hw8]
   clear hw8 n0 nf
   have b0 := HH8.out.rSince.cell hA4
   have bf := HH8.out.rSince.frozen A
   obtain ⟨w9,hw9⟩ : ∃ w9,w9 = w8.setCell ⟨gB',A,none⟩ (.bool true) := ⟨_,rfl⟩
   have HH9 := hide (HH8.out.setSince A)
   rw [<- hw9] at HH9
   go_wp2_with fail
   rw [<- hw9]
   clear hw9 b0 bf
   exact ⟨⟨n + 1,k + 1,gB',c',ai',ci',a2',cp',am',cm',_,_,_,rfl,by go_num,by omega,by omega,HH9.out.st HCW.out⟩,by simp [intOf]; omega⟩
  ·have hq := HS.out.below
   have hDR := cw_drop HS.out.cw
   have HD1 := hide hDR.1
   have HD2 := hide hDR.2
   clear hDR hq
   have HNI := hide (nice_drop c)
   have HCE := hide (kDropM HS.out.kst HS.out.mc (HT.out.here HS.out.below) (HE.out.here HS.out.below))
   generalize dropF c = c' at HD1 HD2 HNI HCE
   obtain ⟨c0,c1,c2,c3,c4,c5,c6⟩ := seven_cells HS.out.kst.k
   go_wp2_with fail
   refine HCE.out.mono ?_
   rintro e w4 ⟨v,rfl,ai',ci',a2',cp',am',cm',rfl,hR,bd,hcm⟩
   clear c0 c1 c2 c3 c4 c5 c6
   obtain ⟨w5,hw5⟩ : ∃ w5,w5 = w4.alloc (.cells #[.int .i64 c'.rm,.slice ai' c'.ys.length ci',.int .i64 c'.f.z,.slice a2' c'.f.qs.length cp',.slice am' c'.f.ps.length cm',.int .i64 c'.f.op,.int .i64 c'.f.st] 65) := ⟨_,rfl⟩
   have hb5 : Below w4.heap.size w4 w5 := by rw [hw5]; exact (Below.refl _ _).alloc (Nat.le_refl _) _
   have HK5 : Hid (KSt w4.heap.size c' ai' ci' a2' cp' am' cm' w5) := hide (kst_rd hR HNI.out hb5 (by rw [hw5]; exact heap_new _ _))
   have HS5 := hide ((HS.out.on bd).on hb5)
   have HCM := hide hcm
   clear hR bd hb5 hcm HCE HS
   go_upto_region 34 with fail
   rw [<- hw5]
   clear hw5
   go_wp2_with fail
   go_loopw [20] (fun t wq => ∃ j : Nat,j <= 4 ∧ t = .int .i64 (j : Int) ∧ Below w5.heap.size w5 wq) (fun t _ => 4 - (intOf t).toNat)
   case atStart => exact ⟨0,by omega,rfl,Below.refl _ _⟩
   case round =>
    obtain ⟨j,hj,rfl,hbq⟩ := hrel
    have HKQ := hide (HK5.out.on hbq)
    have HSQ := hide (HS5.out.on hbq)
    have HBQ := hide hbq
    clear hbq
    obtain ⟨c0,c1,c2,c3,c4,c5,c6⟩ := seven_cells HKQ.out.k
    by_cases hj4 : j < 4
    ·have hj42 : (j : Int) < 4 := by omega
     obtain ⟨d1,d2⟩ := HD2.out j hj4
     have HLD : Hid (Calls Tryz.prog 39 #[.agg #[.int .i64 c'.rm,.slice ai' c'.ys.length ci',.int .i64 c'.f.z,.slice a2' c'.f.qs.length cp',.slice am' c'.f.ps.length cm',.int .i64 c'.f.op,.int .i64 c'.f.st],.int .i64 (j : Int)] wr fun e w' => ∃ v,e = .returned (.tuple #[v,.string (loadT c' (j : Int)),.bool true]) ∧ ToldM wr (loadF c' (j : Int)) v w') := by
      have h := kLoad HKQ.out (j : Int) HCM.out (HT.out.here HSQ.out.below) (HE.out.here HSQ.out.below) ((HN0 _).out HSQ.out.below)
      rw [d1] at h
      exact hide h
     have HD3 := hide d2
     generalize loadT c' (j : Int) = tl at HLD HD3
     generalize loadF c' (j : Int) = cl at HLD
     clear d1 d2
     go_wp2_with fail
     refine HLD.out.mono ?_
     rintro e w6 ⟨v,rfl,ai9,ci9,a29,cp9,am9,cm9,rfl,hR,bd,hcm⟩
     clear c0 c1 c2 c3 c4 c5 c6
     obtain ⟨w7,hw7⟩ : ∃ w7,w7 = w6.alloc (.cells #[.int .i64 cl.rm,.slice ai9 cl.ys.length ci9,.int .i64 cl.f.z,.slice a29 cl.f.qs.length cp9,.slice am9 cl.f.ps.length cm9,.int .i64 cl.f.op,.int .i64 cl.f.st] 65) := ⟨_,rfl⟩
     have hb7 : Below w6.heap.size w6 w7 := by rw [hw7]; exact (Below.refl _ _).alloc (Nat.le_refl _) _
     have HS7 := hide ((HSQ.out.on bd).on hb7)
     have HB7 := hide (below_here (below_here HBQ.out bd) hb7)
     clear hR bd hb7 hcm HLD HKQ HSQ HBQ
     have j0 : (0 : Int) <= (j : Int) := by omega
     have b0 := HS7.out.rSince.cell hj4
     have s0 := HS7.out.rSure.cell hj4
     rw [hw7] at b0 s0
     obtain ⟨sj,hsj⟩ : ∃ x,x = since j := ⟨_,rfl⟩
     rw [<- hsj] at b0
     have HSJ := hide hsj
     clear hsj
     obtain ⟨tj,htj⟩ : ∃ x,x = sure j := ⟨_,rfl⟩
     rw [<- htj] at s0
     have HTJ := hide htj
     clear htj
     cases sj with
     | true =>
      go_wp2_with fail
      rw [<- hw7]
      exact ⟨⟨j + 1,by omega,by go_num,HB7.out⟩,by simp [intOf]; omega⟩
     | false =>
      have hte : tl = tj := by rw [HTJ.out]; exact HD3.out HSJ.out.symm
      subst hte
      have hts := text_same tl
      go_wp2_with fail
      rw [<- hw7]
      exact ⟨⟨j + 1,by omega,by go_num,HB7.out⟩,by simp [intOf]; omega⟩
    ·go_wp2_with fail
     refine (kOk HKQ.out HCM.out (HT.out.here HSQ.out.below) (HE.out.here HSQ.out.below)).mono ?_
     rintro e w6 ⟨rfl,bd⟩
     rw [HD1.out]
     have HB6 := hide (below_here HSQ.out.below bd)
     clear bd
     clear c0 c1 c2 c3 c4 c5 c6
     go_wp2_with fail
     go_ret
     exact ⟨rfl,HB6.out⟩
end Go.Proofs.YtgjoepdfhadmcaaGreatDoor
end

