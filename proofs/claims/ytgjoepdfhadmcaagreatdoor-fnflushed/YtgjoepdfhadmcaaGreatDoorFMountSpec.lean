/- . -/
import Derived.Test.YtgjoepdfhadmcaaGreatDoorFFtlOwnP
import Derived.Test.YtgjoepdfhadmcaaGreatDoorFFtlNew
import Derived.Test.YtgjoepdfhadmcaaGreatDoorFFtlMath
import Derived.Test.YtgjoepdfhadmcaaGreatDoorFChipOwn2
import Derived.Test.YtgjoepdfhadmcaaGreatDoorFPageMath
import Derived.Test.YtgjoepdfhadmcaaGreatDoorFPageBase
import Derived.Test.YtgjoepdfhadmcaaGreatDoorFWeaveSpec
import Derived.BigRegion
import Derived.Lib.QuietBelow
import Derived.BigQuiet
import Derived.Deep.RegionHeld3
import Derived.Test.YtgjoepdfhadmcaaGreatDoorFChipGrow
import Derived.Deep.DeepCutAuto
import Derived.Test.YtgjoepdfhadmcaaGreatDoorFChipCutS
import Derived.Test.YtgjoepdfhadmcaaGreatDoorFInfo
namespace Go.Proofs.YtgjoepdfhadmcaaGreatDoor
open Go.RowKit
set_option linter.unusedVariables false
set_option maxRecDepth 20000
theorem cellP_setM (ps : List Pl) {T : Nat} (x y : Int) (h : T < ps.length) (j : Nat) : (if j = T * 2 + 1 then Value.int .i64 y else if j = T * 2 then .int .i64 x else cellP ps j) = cellP (ps.set T (x,y)) j := by
 unfold cellP
 rw [plAt_set ps _ h]
 by_cases e1 : j = T * 2 + 1
 ·subst e1
  rw [if_pos rfl,if_neg (show ¬ (T * 2 + 1) % 2 = 0 by omega),if_pos (show (T * 2 + 1) / 2 = T by omega)]
 ·rw [if_neg e1]
  by_cases e0 : j = T * 2
  ·subst e0
   rw [if_pos rfl,if_pos (show T * 2 % 2 = 0 by omega),if_pos (show T * 2 / 2 = T by omega)]
  ·rw [if_neg e0,if_neg (show ¬ j / 2 = T by omega)]
structure MtAt (wF : World) (X G gm n N c cm : Nat) (z : Int) (aq : Option Addr) (s : Mt) (wr : World) : Prop where
 ftl : wr.heap[X]? = some (.cells #[.int .i64 z,.slice aq n c,.slice (some ⟨gm,0,none⟩) N cm,.int .i64 (-1),.int .i64 s.S] 29)
 stamps : Owned G (G + 1) wr (some ⟨G,0,none⟩) N (fun j => .int .i64 (stAt s.st j))
 map : OwnPlaces gm (gm + 1) wr (some ⟨gm,0,none⟩) N s.ps
 len : s.st.length = N
 below : Below X wF wr
section
variable {wF : World} {X G gm n N c cm : Nat} {z : Int} {aq : Option Addr} {s : Mt} {wr w' : World}
theorem MtAt.on (h : MtAt wF X G gm n N c cm z aq s wr) (hb : Below wr.heap.size wr w') : MtAt wF X G gm n N c cm z aq s w' :=
 ⟨block_on h.ftl hb,h.stamps.later hb h.stamps.1,h.map.later hb h.map.2.1,h.len,h.below.trans (hb.mono (Nat.le_of_lt (Array.getElem?_eq_some_iff.1 h.ftl).1))⟩
theorem MtAt.hit (h : MtAt wF X G gm n N c cm z aq s wr) (h1 : X < G) (h2 : G < gm) {T : Nat} (hT : T < N) (sp x y : Int) :
  MtAt wF X G gm n N c cm z aq ⟨s.st.set T sp,s.ps.set T (x,y),s.S⟩ (((wr.setCell ⟨G,T,none⟩ (.int .i64 sp)).setCell ⟨gm,T * 2,none⟩ (.int .i64 x)).setCell ⟨gm,T * 2 + 1,none⟩ (.int .i64 y)) := by
 have hA1 := (Aside.refl G (G + 1) wr).setCell (p := ⟨G,T,none⟩) (Nat.le_refl _) (Nat.lt_succ_self _) (.int .i64 sp)
 have hs1 := (h.stamps.set0 hT (.int .i64 sp)).congr (g := fun j => .int .i64 (stAt (s.st.set T sp) j)) (fun j _ => by
  show (if j = T then Value.int .i64 sp else .int .i64 (stAt s.st j)) = _
  rw [stAt_set s.st sp (by rw [h.len]; exact hT)]
  split <;> rfl)
 have hm1 := h.map.2.aside hA1 (by omega)
 have hx1 := (hA1.block X (Array.getElem?_eq_some_iff.1 h.ftl).1 (by omega)).trans h.ftl
 have hb1 := h.below.trans (hA1.below (B := X) (by omega) (Nat.le_of_lt (Array.getElem?_eq_some_iff.1 h.ftl).1))
 generalize wr.setCell ⟨G,T,none⟩ (.int .i64 sp) = w1 at *
 have hA2 := ((Aside.refl gm (gm + 1) w1).setCell (p := ⟨gm,T * 2,none⟩) (Nat.le_refl _) (Nat.lt_succ_self _) (.int .i64 x)).setCell (p := ⟨gm,T * 2 + 1,none⟩) (Nat.le_refl _) (Nat.lt_succ_self _) (.int .i64 y)
 have hm2 := ((hm1.set0 (show T * 2 < 2 * N by omega) (.int .i64 x)).set0 (show T * 2 + 1 < 2 * N by omega) (.int .i64 y)).congr (g := cellP (s.ps.set T (x,y))) (fun j _ => cellP_setM s.ps x y (by rw [h.map.1]; exact hT) j)
 exact ⟨(hA2.block X (Array.getElem?_eq_some_iff.1 hx1).1 (by omega)).trans hx1,hs1.aside hA2 (by omega),⟨by rw [List.length_set]; exact h.map.1,hm2⟩,by rw [List.length_set]; exact h.len,hb1.trans (hA2.below (B := X) (by omega) (Nat.le_of_lt (Array.getElem?_eq_some_iff.1 hx1).1))⟩
theorem MtAt.top (h : MtAt wF X G gm n N c cm z aq s wr) (h1 : X < G) (h2 : X < gm) (v : Int) : MtAt wF X G gm n N c cm z aq ⟨s.st,s.ps,v⟩ (wr.setCell ⟨X,4,none⟩ (.int .i64 v)) := by
 have hA := (Aside.refl X (X + 1) wr).setCell (p := ⟨X,4,none⟩) (Nat.le_refl _) (Nat.lt_succ_self _) (.int .i64 v)
 exact ⟨set_block h.ftl 4 _ (by simp),h.stamps.aside hA (by omega),⟨h.map.1,h.map.2.aside hA (by omega)⟩,h.len,h.below.trans (hA.below (B := X) (Nat.le_refl _) (Nat.le_of_lt (Array.getElem?_eq_some_iff.1 h.ftl).1))⟩
end
end Go.Proofs.YtgjoepdfhadmcaaGreatDoor
