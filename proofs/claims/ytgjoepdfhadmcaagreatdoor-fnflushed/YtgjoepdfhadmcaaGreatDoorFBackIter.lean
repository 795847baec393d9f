/- . -/
import Derived.Test.YtgjoepdfhadmcaaGreatDoorFRangeNum
import Derived.Test.YtgjoepdfhadmcaaGreatDoorFChipOwn2
import Derived.RangeFuncBox
import Derived.Shelf.Abstract
import Derived.Shelf.RegionOpen
import Derived.WalkKit
import Derived.OwnWalkIn
import Derived.TacticsInMore
import Derived.LoopNIn
import Derived.LoopIn
namespace Go.Proofs.YtgjoepdfhadmcaaGreatDoor
open Go.RowKit Go.Shelf
set_option linter.unusedVariables false
set_option linter.unusedSimpArgs false
set_option maxRecDepth 100000
attribute [local go_sem] Oper.semAt_some
def BackM (Bs : Nat) (a : Option Addr) (ni ci : Nat) (ys : List Hd) (k : Nat) (W : World) : Prop :=
 W.cell? ⟨Bs,0,none⟩ = some (.slice a ni ci) ∧ ∃ lo hi YS,Helds lo hi W a ni YS ∧ ∀ j,j + k < ni -> hdAt YS j = hdAt ys j
def backEnc (ni : Nat) (ys : List Hd) (k : Nat) : Array Value := #[.int .i64 ((ni : Int) - 1 - (k : Int)),.agg #[.int .i64 (hdAt ys (ni - 1 - k)).1,.string (hdAt ys (ni - 1 - k)).2.1,.bool (hdAt ys (ni - 1 - k)).2.2]]
set_option maxHeartbeats 2000000 in
theorem back_seq (F : Fence) (m : Nat) (hf : F.fn 166) (hro : F.round = none) (hm : 1 <= m) (Bs : Nat) (a : Option Addr) (ni ci : Nat) (ys : List Hd) (hn : ni <= 1000) :
  SeqNum F m Tryz.prog 166 #[.pointer (some ⟨Bs,0,none⟩)] (backEnc ni ys) ni (BackM Bs a ni ci ys) := by
 intro l J Jx W hM hY h0
 refine callsIn_of_wp Tryz.func166 rfl hf ?_ hro
 simp only [Tryz.ntmps166,List.size_toArray,List.length_cons,List.length_nil,Nat.reduceAdd,Nat.reduceSub,Array.replicate_succ,Array.replicate_zero,List.push_toArray,List.append_toArray,List.nil_append,List.cons_append]
 have c0 := (hM 0 W h0).1
 have HM := hide hM
 have HY := hide hY
 clear hM hY
 gi_wp2
 gi_loopw [3] (fun i wr => ∃ k : Nat,k <= ni ∧ i = .int .i64 ((ni : Int) - 1 - (k : Int)) ∧ J k wr) (fun i _ => (intOf i + 1).toNat)
 case atStart => exact ⟨0,Nat.zero_le _,by simp,h0⟩
 case round =>
  obtain ⟨k,hk,rfl,hJ⟩ := hrel
  clear c0
  by_cases hlt : k < ni
  ·obtain ⟨c1,lo,hi,YS,hH,hE⟩ := HM.out k wr hJ
   obtain ⟨q,hq⟩ : ∃ q,q = ni - 1 - k := ⟨_,rfl⟩
   have hqI : (ni : Int) - 1 - (k : Int) = (q : Int) := by omega
   have hqn : q < ni := by omega
   obtain ⟨b,off,rfl,hb1,hb2,hc⟩ := hH.2.2 (by omega)
   obtain ⟨x0,x1,x2⟩ := hd_cells hc (Below.refl wr.heap.size wr) (Nat.lt_of_lt_of_le hb2 hH.2.1) hqn
   rw [hE q (by omega)] at x0 x1 x2
   obtain ⟨fn,tmps,assign,body,hy,hR⟩ := HY.out k wr hJ hlt
   unfold backEnc at hy
   rw [<- hq,hqI] at hy
   rw [hqI]
   have HR := hide hR
   have HQ := hide hqI
   generalize (hdAt ys q).1 = xa at *
   generalize (hdAt ys q).2.1 = xt at *
   generalize (hdAt ys q).2.2 = xd at *
   clear hR hc hH hE hq hqI
   gi_wp2
   refine HR.out.mono ?_
   rintro e W3 (⟨rfl,hJ3⟩ | ⟨rfl,hJx3⟩)
   ·gi_wp2
    go_roundw
    case rel => exact ⟨k + 1,by omega,by have := HQ.out; go_num,hJ3⟩
    case measure => simp [intOf]
   ·gi_wp2
    refine bodyPost_ret (results_none rfl _ _ _) rfl ?_
    exact ⟨⟨_,rfl⟩,.inr hJx3⟩
  ·obtain rfl : k = ni := by omega
   have hneg : (k : Int) - 1 - (k : Int) = -1 := by omega
   rw [hneg]
   gi_wp2
   go_end0
   exact ⟨⟨_,rfl⟩,.inl hJ⟩
end Go.Proofs.YtgjoepdfhadmcaaGreatDoor
