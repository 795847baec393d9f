/- . -/
import Derived.Test.YtgjoepdfhadmcaaGreatDoorFDraw7
import Derived.Test.YtgjoepdfhadmcaaGreatDoorFMountSpec
import Derived.Test.YtgjoepdfhadmcaaGreatDoorFFtlSpecD
import Derived.Test.YtgjoepdfhadmcaaGreatDoorFFtlMath
import Derived.Test.YtgjoepdfhadmcaaGreatDoorFChipOwn2
import Derived.Test.YtgjoepdfhadmcaaGreatDoorFPageMath
import Derived.Test.YtgjoepdfhadmcaaGreatDoorFPageBase
import Derived.Test.YtgjoepdfhadmcaaGreatDoorFWeaveSpec
import Derived.BigRegion
import Derived.Lib.QuietBelow
import Derived.BigQuiet
import Derived.Deep.RegionHeld3
import Derived.Test.YtgjoepdfhadmcaaGreatDoorFChipGrow
import Derived.Deep.DeepCutAuto
import Derived.Test.YtgjoepdfhadmcaaGreatDoorFChipAns
import Derived.Test.YtgjoepdfhadmcaaGreatDoorFFtlOwnP
namespace Go.Proofs.YtgjoepdfhadmcaaGreatDoor
open Go.RowKit
set_option linter.unusedVariables false
set_option maxRecDepth 20000
structure DrAt (w : World) (p bF : Nat) (z : Int) (qs : List Sq) (ps : List Pl) (op st : Int) (a : Option Addr) (c : Nat) (am : Option Addr) (cm lo hi : Nat) (wr : World) : Prop where
 var : VarF (w.heap.size + 1) bF lo hi z qs ps op st a c am cm wr
 cap : ps.length <= cm
 ok : ftlOk z qs ps op st = true
 cur : Cur wr p
 aside : Aside p (p + 1) w wr
section
variable {w : World} {p bF c cm lo hi : Nat} {z op st : Int} {qs : List Sq} {ps : List Pl} {a am : Option Addr} {wr w' : World}
theorem DrAt.drawn (h : DrAt w p bF z qs ps op st a c am cm lo hi wr) (hp : p < w.heap.size) (hc : Cur w' p) (ha : Aside p (p + 1) wr w') : DrAt w p bF z qs ps op st a c am cm lo hi w' :=
 ⟨h.var.aside ha (.inr (by have := h.var.atB; omega)) (.inl (by have := h.var.atL; omega)),h.cap,h.ok,hc,h.aside.trans ha⟩
theorem DrAt.on (h : DrAt w p bF z qs ps op st a c am cm lo hi wr) (hb : Below wr.heap.size wr w') : DrAt w p bF z qs ps op st a c am cm lo hi w' :=
 ⟨h.var.on hb,h.cap,h.ok,h.cur.below hb h.cur.lt,h.aside.trans (aside_new hb)⟩
theorem DrAt.put (h : DrAt w p bF z qs ps op st a c am cm lo hi wr) (hp : p < w.heap.size) {z' op' st' : Int} {qs' : List Sq} {ps' : List Pl} {a' am' : Option Addr} {c' cm' lo' hi' : Nat} (ho : FtlOwn lo' hi' wr a' am' qs' ps') (h1 : bF < lo') (h2 : w.heap.size + 1 <= lo') (hcap : ps'.length <= cm') (hok : ftlOk z' qs' ps' op' st' = true) :
  DrAt w p bF z' qs' ps' op' st' a' c' am' cm' lo' hi' (((((wr.setCell ⟨bF,0,none⟩ (.int .i64 z')).setCell ⟨bF,1,none⟩ (.slice a' qs'.length c')).setCell ⟨bF,2,none⟩ (.slice am' ps'.length cm')).setCell ⟨bF,3,none⟩ (.int .i64 op')).setCell ⟨bF,4,none⟩ (.int .i64 st')) := by
 have hA := five_aside (b := bF) (Aside.refl bF (bF + 1) wr) (Nat.le_refl _) (Nat.lt_succ_self _) (.int .i64 z') (.slice a' qs'.length c') (.slice am' ps'.length cm') (.int .i64 op') (.int .i64 st')
 have hB := h.var.atB
 exact ⟨⟨five_set h.var.var _ _ _ _ _,ho.aside hA (.inl (by omega)),.inl h1,hB,h2⟩,hcap,hok,h.cur.aside hA (by omega),⟨hA.os.trans h.aside.os,hA.tape.trans h.aside.tape,hA.output.trans h.aside.output,Nat.le_trans h.aside.size hA.size,fun k hk hk' => (hA.block k (Nat.lt_of_lt_of_le hk h.aside.size) (.inl (by omega))).trans (h.aside.block k hk hk')⟩⟩
end
end Go.Proofs.YtgjoepdfhadmcaaGreatDoor
