/- Several texts in one: LogSpecA, LogSpecB, LogSpecD, LogImplA. -/
import Derived.Test.YtdjifickdcnacaaDoorNLogMath
import Derived.Test.YtdjifickdcnacaaDoorNBase
import Derived.Test.YtdjifickdcnacaaDoorNChipOwn2
import Derived.Lib.QuietBelow
import Derived.BigQuiet
import Derived.Deep.Cut
import Derived.Deep.RegionHeld3
import Derived.Deep.RegionLaw
import Derived.Test.YtdjifickdcnacaaDoorNTextWalk
section
namespace Go.Proofs.YtdjifickdcnacaaDoor
open Go.RowKit
set_option linter.unusedVariables false
set_option linter.unusedSimpArgs false
set_option maxRecDepth 20000
end Go.Proofs.YtdjifickdcnacaaDoor
end

section
namespace Go.Proofs.YtdjifickdcnacaaDoor
open Go.RowKit
set_option linter.unusedVariables false
set_option linter.unusedSimpArgs false
set_option maxRecDepth 20000
end Go.Proofs.YtdjifickdcnacaaDoor
end

section
namespace Go.Proofs.YtdjifickdcnacaaDoor
open Go.RowKit
set_option linter.unusedVariables false
set_option linter.unusedSimpArgs false
set_option maxRecDepth 20000
end Go.Proofs.YtdjifickdcnacaaDoor
end

section
namespace Go.Proofs.YtdjifickdcnacaaDoor
open Go.RowKit
set_option linter.unusedVariables false
set_option linter.unusedSimpArgs false
set_option maxRecDepth 20000
set_option maxHeartbeats 1600000 in
theorem areValues_any (a : Option Addr) (n cap : Nat) (ts : List ByteArray) (w : World) {lo hi : Nat} (h : Texts lo hi w a n ts) (hn : n <= 1048576) (hts : ∀ s ∈ ts,s.size <= 1048576) :
  Calls Tryd.prog 65 #[.slice a n cap] w fun r w' => r = .returned (.bool (valuesOk ts)) ∧ w = w' := by
 obtain ⟨hl,hsz,hx⟩ := h
 have HL : Hid (ts.length = n) := hl
 have HTS := hide hts
 clear hl hts
 by_cases h64 : 64 < (n : Int)
 ·have HE : Hid (valuesOk ts = false) := by show _ = _; unfold valuesOk; rw [HL.out,decide_eq_false (by omega)]; rfl
  go_enter Tryd.func65,Tryd.ntmps65
  go_wp2_with fail
  go_ret
  exact ⟨by rw [HE.out]; rfl,rfl⟩
 ·have HE : Hid (valuesOk ts = shortAll ts n) := by show _ = _; unfold valuesOk; rw [HL.out,decide_eq_true (by omega)]; rfl
  go_enter Tryd.func65,Tryd.ntmps65
  go_wp2_with fail
  go_loopw [10] (fun i wr => ∃ k : Nat,k <= n ∧ i = .int .i64 (k : Int) ∧ shortAll ts k = true ∧ w = wr) (fun i _ => n - (intOf i).toNat)
  case atStart => exact ⟨0,Nat.zero_le _,rfl,rfl,rfl⟩
  case round =>
   obtain ⟨k,hk,rfl,hpk,rfl⟩ := hrel
   have HPK := hide hpk
   clear hpk
   by_cases hlt : k < n
   ·obtain ⟨b,off,rfl,_,hb,hc⟩ := hx (by omega)
    have hck : w.cell? ⟨b,off + k,none⟩ = some (.string (ts.getD k ByteArray.empty)) := hc k hlt
    have HNX : Hid (shortAll ts (k + 1) = decide ((ts.getD k ByteArray.empty).size <= 24)) := by show _ = _; unfold shortAll; rw [HPK.out]; rfl
    have HNO : Hid (shortAll ts (k + 1) = false -> shortAll ts n = false) := fun h => by
     have := shortAll_no h (n - (k + 1))
     rwa [show k + 1 + (n - (k + 1)) = n by omega] at this
    have hfx : (ts.getD k ByteArray.empty).size <= 1048576 := HTS.out _ (by
     rw [List.getD_eq_getElem?_getD,List.getElem?_eq_getElem (by rw [HL.out]; exact hlt)]
     exact List.getElem_mem _)
    clear hc hx
    generalize ts.getD k ByteArray.empty = z at *
    by_cases t1 : 24 < (z.size : Int)
    ·have HX : Hid (shortAll ts (k + 1) = false) := by show _ = _; rw [HNX.out,decide_eq_false (by omega)]
     go_wp2_with fail
     go_ret
     exact ⟨by rw [HE.out,HNO.out HX.out]; rfl,rfl⟩
    ·have HX : Hid (shortAll ts (k + 1) = true) := by show _ = _; rw [HNX.out,decide_eq_true (by omega)]
     go_wp2_with fail
     go_roundw
     case rel => exact ⟨k + 1,by omega,by go_num,HX.out,trivial⟩
     case measure => simp [intOf]; omega
   ·obtain rfl : k = n := by omega
    go_wp2_with fail
    go_ret
    exact ⟨by rw [HE.out,HPK.out]; rfl,rfl⟩
end Go.Proofs.YtdjifickdcnacaaDoor
end

