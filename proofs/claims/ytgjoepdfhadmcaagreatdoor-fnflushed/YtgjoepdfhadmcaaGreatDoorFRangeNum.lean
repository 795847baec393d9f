/- . -/
import Derived.Test.YtgjoepdfhadmcaaGreatDoorFBase
import Derived.RangeFuncNested
import Derived.RangeFuncBound
import Derived.RangeFuncCalls
import Derived.RangeFuncLeaves
import Derived.RangeFuncWrites
namespace Go.Proofs.YtgjoepdfhadmcaaGreatDoor
open Go.RowKit
set_option linter.unusedVariables false
def SeqNum (F : Fence) (n : Nat) (P : Program) (g : Nat) (lb : Array Value) (enc : Nat -> Array Value) (N : Nat) (M : Nat -> World -> Prop) : Prop :=
 ∀ (l : Nat) (J : Nat -> World -> Prop) (Jx : World -> Prop) (W : World),(∀ k W,J k W -> M k W) ->
  (∀ k W1,J k W1 -> k < N -> YieldAt F (n - 1) P l (enc k) W1 fun e W' => (e = .returned (.bool true) ∧ J (k + 1) W') ∨ (e = .returned (.bool false) ∧ Jx W')) ->
  J 0 W -> CallsIn F n P g (#[.func (.yield l) #[] #[]] ++ lb) W fun e W' => (∃ v,e = .returned v) ∧ (J N W' ∨ Jx W')
def Keep2 (D : Nat) (W W' : World) : Prop := W'.heap[D]? = W.heap[D]? ∧ W'.heap[D + 1]? = W.heap[D + 1]?
def numPost (D : Nat) (I : Nat -> World -> Prop) (Ix : World -> Prop) (k : Nat) (W : World) : Exit -> Act -> World -> Prop
 | .normal,_,W' => Keep2 D W W' ∧ I (k + 1) W'
 | .ret,_,W' => Keep2 D W W' ∧ Ix W'
 | _,_,_ => False
theorem wpIn_rangeFunc_num {F : Fence} {n : Nat} {P : Program} {g : Operand} {ps : Array Tmp} {assign body : Code} {Q : Exit -> Act -> World -> Prop} {a : Act} {w : World}
  (hro : F.round = none) (h1 : 1 <= n) {gf : Nat} {lb : Array Value} (hg : a.eval g = .func (.func gf) #[] lb) (hFg : F.fn gf) (eg : ∀ args w,(callFunc gf args).run P w = .ok (.enter gf args) w)
  {enc : Nat -> Array Value} {N : Nat} {M : Nat -> World -> Prop} (hseq : SeqNum F (n - 1) P gf lb enc N M) (hps : ∀ k,(enc k).size = ps.size)
  (I : Nat -> World -> Prop) (Ix : World -> Prop) (hI : ∀ k W o,I k W -> I k (W.putObj (w.heap.size + 1) o)) (hIx : ∀ W o,Ix W -> Ix (W.putObj (w.heap.size + 1) o)) (hM : ∀ k W,I k W -> M k W) (h0 : ∀ o o',I 0 ((w.alloc o).alloc o'))
  (I2 : Nat -> Act -> World -> Prop) (hI2 : ∀ k a' W o,I2 k a' W -> I2 k a' (W.putObj (w.heap.size + 1) o))
  (hassign : ∀ (l k : Nat) (W : World) (K : Act -> World -> Prop),I k W -> k < N -> (∀ a' W',Keep2 w.heap.size W W' -> I2 k a' W' -> K a' W') ->
   assign.wpIn (F.inRound l) (n - 1 - 1) P (Exit.then K (fun _ _ _ => False)) { tmps := (ps.zip (enc k)).foldl (fun t (p,v) => t.setIfInBounds p v) a.tmps,defers := [] } W)
  (hbody : ∀ (l k : Nat) (a' : Act) (W : World),I2 k a' W -> k < N -> body.wpIn (F.inRound l) (n - 1 - 1) P (numPost w.heap.size I Ix k W) a' W)
  (hdone : ∀ W : World,I N W -> W.heap[w.heap.size]? = some (.deferred (some [])) -> Q .normal { a with defers := { target := .collected w.heap.size,args := #[] } :: a.defers } W)
  (hstop : ∀ W : World,Ix W -> W.heap[w.heap.size]? = some (.deferred (some [])) -> Code.ret.wpIn F n P Q { a with defers := { target := .collected w.heap.size,args := #[] } :: a.defers } W) :
  (Code.rangeFunc g ps assign body).wpIn F n P Q a w := by
 refine wpIn_rangeFunc fun fn hfn => ?_
 rw [hro]
 -- the loop's record lies at r,its deferred calls at w.heap.size
 obtain ⟨r,hr⟩ : ∃ r,r = w.heap.size + 1 := ⟨_,rfl⟩
 obtain ⟨R,hR⟩ : ∃ R : LoopState -> Option Code -> Loop,R = fun st pe => { state := st,pending := pe,fn := fn,tmps := a.tmps,params := ps,assign := assign,body := body,defers := w.heap.size } := ⟨_,rfl⟩
 obtain ⟨V,hV⟩ : ∃ V,V = (w.alloc (.deferred (some []))).alloc (.loop (R .ready none)) := ⟨_,rfl⟩
 have vr : V.heap[r]? = some (.loop (R .ready none)) := by
  rw [hV,hr]
  have := World.alloc_heap_new (w.alloc (.deferred (some []))) (.loop (R .ready none))
  rwa [World.size_alloc] at this
 have vd : V.heap[w.heap.size]? = some (.deferred (some [])) := by
  rw [hV]
  exact (Below.heap_alloc _ _ _ (by simp)).trans (World.alloc_heap_new w _)
 have vI : I 0 V := by rw [hV]; exact h0 _ _
 refine ⟨r,[{ target := .collected w.heap.size,args := #[] }],V,{ target := .fn (.func gf) lb,args := #[.func (.yield r) #[] #[]] },V,gf,#[.func (.yield r) #[] #[]] ++ lb,V,?_,?_,?_,?_,fun _ => h1,?_⟩
 ·rw [hV,hr,hR]; exact run_enterLoop_outer _ _ _ _ _
 ·simp only [resolve,hg]
  simp [go_sem]
 ·intro f' hf'
  simp [Target.leads] at hf'
  subst hf'
  exact hFg
 ·simp [invoke,go_sem,eg]
 ·refine (hseq r (fun k W => I k W ∧ W.heap[r]? = some (.loop (R .ready none)) ∧ W.heap[w.heap.size]? = some (.deferred (some [])))
   (fun W => Ix W ∧ W.heap[r]? = some (.loop (R .done (some .ret))) ∧ W.heap[w.heap.size]? = some (.deferred (some []))) V (fun k W h => hM k W h.1) ?_ ⟨vI,vr,vd⟩).mono ?_
  ·rintro k W ⟨hi,hl,hd⟩ hk
   have hy := run_yield (P := P) (args := enc k) hl (by rw [hR]; exact hps k)
   rw [hR] at hy
   refine ⟨fn,_,assign,body,hy,roundIn_of_wpIn hfn (hassign r k W _ hi hk fun a' W' hkeep hi2 => ?_)⟩
   have hl' : W'.heap[r]? = some (.loop (R .ready none)) := by rw [hr] at hl ⊢; exact hkeep.2.trans hl
   have hd' := hkeep.1.trans hd
   have hlt : r < W'.heap.size := (Array.getElem?_eq_some_iff.1 hl').1
   refine ⟨_,run_beginRound hl' (by rw [hR]),?_⟩
   obtain ⟨X,hX⟩ : ∃ X,X = W'.putObj r (.loop { R .ready none with state := .busy }) := ⟨_,rfl⟩
   have xl : X.heap[r]? = some (.loop { R .ready none with state := .busy }) := by rw [hX]; exact World.putObj_heap_same hlt
   have xd : X.heap[w.heap.size]? = some (.deferred (some [])) := by rw [hX]; exact (World.putObj_heap_other (by omega)).trans hd'
   have xi : I2 k a' X := by rw [hX]; rw [hr]; exact hI2 k a' _ _ hi2
   rw [<- hX]
   refine wpIn_mono (hbody r k a' X xi hk) ?_
   -- what the record comes to
   have fin : ∀ (jump : Option Code) (Y : World),Keep2 w.heap.size X Y -> (Instr.endRound r jump).run P Y = .ok (.bool jump.isNone) (Y.putObj r (.loop (R (if jump.isNone then .ready else .done) jump))) ∧ (Y.putObj r (.loop (R (if jump.isNone then .ready else .done) jump))).heap[r]? = some (.loop (R (if jump.isNone then .ready else .done) jump)) ∧ (Y.putObj r (.loop (R (if jump.isNone then .ready else .done) jump))).heap[w.heap.size]? = some (.deferred (some [])) := fun jump Y hkY => by
    have yl : Y.heap[r]? = some (.loop { R .ready none with state := .busy }) := by rw [hr] at xl ⊢; exact hkY.2.trans xl
    have yd := hkY.1.trans xd
    have e := run_endRound (P := P) jump yl
    refine ⟨?_,World.putObj_heap_same (Array.getElem?_eq_some_iff.1 yl).1,(World.putObj_heap_other (by omega)).trans yd⟩
    rw [hR] at e ⊢
    exact e
   rintro e a3 Y hp
   cases e with
   | normal =>
    obtain ⟨hk3,hi3⟩ := hp
    obtain ⟨e1,e4,e5⟩ := fin none Y hk3
    exact ⟨_,_,e1,.inl ⟨rfl,by rw [hr]; exact hI _ _ _ hi3,e4,e5⟩⟩
   | ret =>
    obtain ⟨hk3,hi3⟩ := hp
    obtain ⟨e1,e4,e5⟩ := fin (some .ret) Y hk3
    exact ⟨_,_,e1,.inr ⟨rfl,by rw [hr]; exact hIx _ _ hi3,e4,e5⟩⟩
   | exit id => exact hp.elim
   | goto t => exact hp.elim
   | panic ch => exact hp.elim
   | outgrown => exact hp.elim
  ·rintro e Y ⟨⟨v,rfl⟩,⟨hi,hl,hd⟩ | ⟨hi,hl,hd⟩⟩
   ·refine ⟨none,_,by have e := run_endLoop (P := P) hl (by rw [hR]; simp); rw [hR] at e; exact e,hdone _ (by rw [hr]; exact hI _ _ _ hi) ((World.putObj_heap_other (by omega)).trans hd)⟩
   ·refine ⟨some .ret,_,by have e := run_endLoop (P := P) hl (by rw [hR]; simp); rw [hR] at e; exact e,hstop _ (by rw [hr]; exact hIx _ _ hi) ((World.putObj_heap_other (by omega)).trans hd)⟩
end Go.Proofs.YtgjoepdfhadmcaaGreatDoor
