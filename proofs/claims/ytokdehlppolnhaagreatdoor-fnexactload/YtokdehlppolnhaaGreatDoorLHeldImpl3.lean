/- . -/
import Derived.Test.YtokdehlppolnhaaGreatDoorLFtlOwnP
import Derived.Deep.RegionHeld3
namespace Go.Proofs.YtokdehlppolnhaaGreatDoor
open Go.RowKit
set_option linter.unusedVariables false
set_option maxRecDepth 20000
theorem HdOwn.on {B : Nat} {w w' : World} {v : Value} {ys : List Hd} (h : HdOwn B w v ys) (hb : Below w.heap.size w w') : HdOwn B w' v ys := own_keepBy h (grown_below hb none) (fun k e => by cases e)
set_option maxHeartbeats 3200000 in
theorem parted_any (b off ni ci : Nat) (ys : List Hd) (room K : Nat) (w : World) {lo hi : Nat} (hy : Helds lo hi w (some ⟨b,off,none⟩) ni ys) (hhi : hi <= w.heap.size) (hn : ni <= 1048576) (hci : ni <= ci) (hr : room <= 1048576) (hK : K = min room ni) :
  Calls Tryz.prog 148 #[.slice (some ⟨b,off,none⟩) ni ci,.int .i64 (room : Int)] w fun e w' => ∃ a1 c1 a2 c2,e = .returned (.tuple #[.slice a1 K c1,.slice a2 (ni - K) c2]) ∧ HdOwn w.heap.size w' (.slice a1 K c1) (ys.take K) ∧ HdOwn w.heap.size w' (.slice a2 (ni - K) c2) (ys.drop K) ∧ Below w.heap.size w w' := by
 have hKn : K <= ni := by omega
 have hmin : min (room : Int) (ni : Int) = (K : Int) := by omega
 have H1 := hide (helds_take hy K hKn)
 have hsl1 := slice_front3 (P := Tryz.prog) 185 67 Tryz.underlying185 (fun _ => by kernel_rfl) b off ni ci K hKn hci
 obtain ⟨ad,had,hsl2⟩ := slice_rest3 (P := Tryz.prog) 185 67 Tryz.underlying185 (fun _ => by kernel_rfl) b off ni ci K hKn hci
 have H2 := hide (helds_rest hy K hKn had)
 have HC1 : ∀ W,Hid (Below w.heap.size w W -> Calls Tryz.prog 204 #[.slice (some ⟨b,off,none⟩) K ci] W fun e w' => ∃ a' c',e = .returned (.slice a' K c') ∧ HdOwn W.heap.size w' (.slice a' K c') (ys.take K) ∧ Below W.heap.size W w') := fun W hb =>
  cloneHd_any _ _ _ _ W (H1.out.later hb hhi) (by have := hb.size; omega) (by omega)
 have HC2 : ∀ W,Hid (Below w.heap.size w W -> Calls Tryz.prog 204 #[.slice (some ad) (ni - K) (ci - K)] W fun e w' => ∃ a' c',e = .returned (.slice a' (ni - K) c') ∧ HdOwn W.heap.size w' (.slice a' (ni - K) c') (ys.drop K) ∧ Below W.heap.size W w') := fun W hb =>
  cloneHd_any _ _ _ _ W (H2.out.later hb hhi) (by have := hb.size; omega) (by omega)
 have HB0 : Hid (Below w.heap.size w w.drew) := (Below.refl w.heap.size w).drew
 have HKE := hide hK
 clear hy H1 H2 had hK
 go_enter Tryz.func148,Tryz.ntmps148
 go_upto_region 2 with fail
 try rw [hmin]
 go_region_with (first
  | (go_at_call 204; refine ((HC1 _).out (by exact HB0.out)).mono ?_; rintro e w1 ⟨a1,c1,rfl,ho1,b1⟩; have HP1 := hide (ho1.mono (Nat.le_refl w.heap.size)); have HB1 := hide (below_here HB0.out b1); clear ho1 b1)
  | (go_at_call 204; refine ((HC2 _).out (by exact HB1.out)).mono ?_; rintro e w2 ⟨a2,c2,rfl,ho2,b2⟩; have HQ2 := hide (ho2.mono HB1.out.size); have HQ1 := hide (HdOwn.on HP1.out b2); have HB2 := hide (below_here HB1.out b2); clear ho2 b2)
  | (go_at_call 204; refine ((HC2 _).out (by exact HB0.out)).mono ?_; rintro e w1 ⟨a2,c2,rfl,ho1,b1⟩; have HP2 := hide (ho1.mono (Nat.le_refl w.heap.size)); have HB1 := hide (below_here HB0.out b1); clear ho1 b1)
  | (go_at_call 204; refine ((HC1 _).out (by exact HB1.out)).mono ?_; rintro e w2 ⟨a1,c1,rfl,ho2,b2⟩; have HQ1 := hide (ho2.mono HB1.out.size); have HQ2 := hide (HdOwn.on HP2.out b2); have HB2 := hide (below_here HB1.out b2); clear ho2 b2))
 all_goals
  go_wp2_with fail
  go_ret2
  exact ⟨a1,c1,a2,c2,rfl,HQ1.out,HQ2.out,HB2.out⟩
end Go.Proofs.YtokdehlppolnhaaGreatDoor
