/- Several texts in one: SpareSpec3, LikeNote. -/
import Derived.Test.YtdjifickdcnacaaDoorNChipOwn2
import Derived.Test.YtdjifickdcnacaaDoorNDrawBase
import Derived.Test.YtdjifickdcnacaaDoorNTextWalk
section
namespace Go.Proofs.YtdjifickdcnacaaDoor
open Go.RowKit
set_option linter.unusedVariables false
set_option linter.unusedSimpArgs false
set_option maxRecDepth 20000
theorem strV_one (s : ByteArray) : ∀ u ∈ [Value.string s],u.oneCell' = true := by
 intro u hu; simp only [List.mem_singleton] at hu; subst hu; rfl
theorem ownTexts_of {w : World} {base B n : Nat} {v : Value} {ts : List ByteArray} (h : w.ownsRow base 9 1 v n (ts.map Value.string)) (hB : B <= base) : ∃ a cap,v = .slice a n cap ∧ n <= cap ∧ OwnTexts B w.heap.size w a n ts := by
 obtain ⟨a,cap,rfl,hcap,hlen,_,how⟩ := owned_of_own h
 have hl : ts.length = n := by simpa using hlen
 refine ⟨a,cap,rfl,hcap,hl,how.1,fun hn => ?_⟩
 obtain ⟨b,off,rfl,h1,h2,h3⟩ := how.2 hn
 refine ⟨b,off,rfl,by omega,h2,fun i hi => ?_⟩
 obtain ⟨h4,h5⟩ := h3 i hi
 refine ⟨?_,h5⟩
 rw [h4]
 unfold cellT
 dsimp only
 rw [List.getD_eq_getElem?_getD,List.getD_eq_getElem?_getD,List.getElem?_map,List.getElem?_eq_getElem (by omega)]
 rfl
end Go.Proofs.YtdjifickdcnacaaDoor
end

section
namespace Go.Proofs.YtdjifickdcnacaaDoor
open Go.RowKit
set_option linter.unusedVariables false
set_option linter.unusedSimpArgs false
set_option maxRecDepth 20000
set_option maxHeartbeats 1600000 in
theorem likeNote_same (k tt e s a : Int) (tx : ByteArray) (vs : List ByteArray) (av av' : Option Addr) (n cap cap' : Nat) (w : World) {lo hi lo' hi' : Nat} (h : Texts lo hi w av n vs) (h' : Texts lo' hi' w av' n vs) (hn : n <= 1048576) :
  Calls Tryd.prog 12 #[.agg #[.int .i64 k,.int .i64 tt,.int .i64 e,.int .i64 s,.int .i64 a,.string tx,.slice av n cap],.agg #[.int .i64 k,.int .i64 tt,.int .i64 e,.int .i64 s,.int .i64 a,.string tx,.slice av' n cap']] w fun r w' => r = .returned (.bool true) ∧ Below w.heap.size w w' := by
 obtain ⟨wA,hwA⟩ : ∃ wA,wA = (w.alloc (.cells #[.int .i64 k,.int .i64 tt,.int .i64 e,.int .i64 s,.int .i64 a,.string tx,.slice av n cap] 26)).alloc (.cells #[.int .i64 k,.int .i64 tt,.int .i64 e,.int .i64 s,.int .i64 a,.string tx,.slice av' n cap'] 26) := ⟨_,rfl⟩
 have HBA : Hid (Below w.heap.size w wA) := by rw [hwA]; exact (((Below.refl _ _).alloc (Nat.le_refl _) _).alloc (by simp) _)
 have HTA := hide (h.later HBA.out h.2.1)
 have HTB := hide (h'.later HBA.out h'.2.1)
 have hbt := text_same tx
 clear h h'
 go_enter Tryd.func12,Tryd.ntmps12
 go_wp2_with fail
 rw [<- hwA]
 clear hwA
 refine (likeTexts_any av n cap vs av' n cap' vs wA HTA.out HTB.out (by omega) (by omega)).mono ?_
 rintro r w1 ⟨rfl,b1⟩
 have HB1 := hide (below_here HBA.out b1)
 clear b1
 simp only [decide_true]
 go_wp2_with fail
 go_ret
 exact ⟨rfl,HB1.out⟩
end Go.Proofs.YtdjifickdcnacaaDoor
end

