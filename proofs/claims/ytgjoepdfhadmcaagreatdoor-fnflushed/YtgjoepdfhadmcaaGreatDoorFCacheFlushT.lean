/- . -/
import Derived.Test.YtgjoepdfhadmcaaGreatDoorFFtlImplI
import Derived.Test.YtgjoepdfhadmcaaGreatDoorFCSpecD
import Derived.Test.YtgjoepdfhadmcaaGreatDoorFBackIter
namespace Go.Proofs.YtgjoepdfhadmcaaGreatDoor
open Go.RowKit Go.Shelf
set_option linter.unusedVariables false
set_option linter.unusedSimpArgs false
set_option maxRecDepth 100000
structure FlSt (w : World) (cb : Array Value) (L P l1 r1 : Nat) (aj : Option Addr) (cj : Nat) (rm : Int) (YS : List Hd) (F : Fv) (W : World) : Prop where
 box : W.heap[w.heap.size]? = some (.cells cb 65)
 one : W.heap[w.heap.size + 1]? = some (.cells #[.int .i64 0,.slice none 0 0,.int .i64 0,.slice none 0 0,.slice none 0 0,.int .i64 0,.int .i64 0] 65)
 two : W.heap[w.heap.size + 1 + 1]? = some (.cells #[.bool false] 4)
 hdr : W.heap[P + 1]? = some (.cells #[.slice aj YS.length cj] 63)
 own : ∃ a cp am cm,W.heap[P]? = some (.cells #[.int .i64 rm,.slice aj YS.length cj,.int .i64 F.z,.slice a F.qs.length cp,.slice am F.ps.length cm,.int .i64 F.op,.int .i64 F.st] 65) ∧ F.ps.length <= cm ∧ ∃ l2 r2,FtlOwn l2 r2 W a am F.qs F.ps ∧ L <= l2 ∧ ((r2 <= P ∧ (r1 <= l2 ∨ r2 <= l1)) ∨ P + 4 <= l2)
 items : OwnHelds l1 r1 W aj YS.length YS
 below : Below w.heap.size w W
 far : w.heap.size + 1 + 1 + 1 <= L ∧ L <= l1 ∧ r1 <= P ∧ L <= P ∧ P + 4 <= W.heap.size
section
variable {w : World} {cb : Array Value} {L P l1 r1 : Nat} {aj : Option Addr} {cj : Nat} {rm : Int} {YS : List Hd} {F : Fv} {W W' : World}
theorem FlSt.on (h : FlSt w cb L P l1 r1 aj cj rm YS F W) (hb : Below W.heap.size W W') : FlSt w cb L P l1 r1 aj cj rm YS F W' := by
 obtain ⟨a,cp,am,cm,k1,k2,l2,r2,k3,k4⟩ := h.own
 have hs := hb.size
 exact ⟨block_on h.box hb,block_on h.one hb,block_on h.two hb,block_on h.hdr hb,⟨a,cp,am,cm,block_on k1 hb,k2,l2,r2,k3.later hb k3.1,k4⟩,h.items.later hb h.items.2.1,below_here h.below hb,by have := h.far; omega⟩
theorem FlSt.put (h : FlSt w cb L P l1 r1 aj cj rm YS F W) (hA : Aside (P + 2) (P + 4) W W') : FlSt w cb L P l1 r1 aj cj rm YS F W' := by
 obtain ⟨a,cp,am,cm,k1,k2,l2,r2,k3,k4,k5⟩ := h.own
 have hf := h.far
 have hs := hA.size
 have key : ∀ {q : Nat} {o : Obj},q < P + 2 -> W.heap[q]? = some o -> W'.heap[q]? = some o := fun {q o} hq ho => (hA.block q (Array.getElem?_eq_some_iff.1 ho).1 (.inl hq)).trans ho
 exact ⟨key (by omega) h.box,key (by omega) h.one,key (by omega) h.two,key (by omega) h.hdr,⟨a,cp,am,cm,key (by omega) k1,k2,l2,r2,k3.aside hA (by omega),k4,k5⟩,h.items.aside hA (.inl (by omega)),h.below.trans (hA.below (by omega) h.below.size),by omega⟩
theorem aside_putObj (W : World) (r : Nat) (o : Obj) {lo hi : Nat} (h1 : lo <= r) (h2 : r < hi) : Aside lo hi W (W.putObj r o) := ⟨rfl,rfl,rfl,by simp,fun k _ hk => World.putObj_heap_other (by omega)⟩
theorem FlSt.squares (h : FlSt w cb L P l1 r1 aj cj rm YS F W) : ∃ a cp am cm,W.heap[P]? = some (.cells #[.int .i64 rm,.slice aj YS.length cj,.int .i64 F.z,.slice a F.qs.length cp,.slice am F.ps.length cm,.int .i64 F.op,.int .i64 F.st] 65) ∧ F.ps.length <= cm ∧ Squares 0 W.heap.size W a F.qs.length F.qs ∧ Places 0 W.heap.size W am F.ps.length F.ps := by
 obtain ⟨a,cp,am,cm,k1,k2,l2,r2,k3,k4⟩ := h.own
 have k5 := k3.wide (Nat.zero_le _) k3.1 (Nat.le_refl _)
 exact ⟨a,cp,am,cm,k1,k2,k5.squares,k5.places⟩
theorem FlSt.next (h : FlSt w cb L P l1 r1 aj cj rm YS F W) {F' : Fv} {a : Option Addr} {cp : Nat} {am : Option Addr} {cm : Nat} (hcm : F'.ps.length <= cm) (ho : ∃ l2 r2,FtlOwn l2 r2 W a am F'.qs F'.ps ∧ L <= l2 ∧ ((r2 <= P ∧ (r1 <= l2 ∨ r2 <= l1)) ∨ P + 4 <= l2)) :
  FlSt w cb L P l1 r1 aj cj rm YS F' (((((W.setCell ⟨P,2,none⟩ (.int .i64 F'.z)).setCell ⟨P,3,none⟩ (.slice a F'.qs.length cp)).setCell ⟨P,4,none⟩ (.slice am F'.ps.length cm)).setCell ⟨P,5,none⟩ (.int .i64 F'.op)).setCell ⟨P,6,none⟩ (.int .i64 F'.st)) ∧ Aside P (P + 1) W (((((W.setCell ⟨P,2,none⟩ (.int .i64 F'.z)).setCell ⟨P,3,none⟩ (.slice a F'.qs.length cp)).setCell ⟨P,4,none⟩ (.slice am F'.ps.length cm)).setCell ⟨P,5,none⟩ (.int .i64 F'.op)).setCell ⟨P,6,none⟩ (.int .i64 F'.st)) := by
 obtain ⟨a0,cp0,am0,cm0,k1,_⟩ := h.own
 obtain ⟨l2,r2,o1,o2,o3⟩ := ho
 have hf := h.far
 have hA := seven_aside5 (Aside.refl P (P + 1) W) (Nat.le_refl _) (Nat.lt_succ_self _) (.int .i64 F'.z) (.slice a F'.qs.length cp) (.slice am F'.ps.length cm) (.int .i64 F'.op) (.int .i64 F'.st)
 have hS := seven_set5 k1 (.int .i64 F'.z) (.slice a F'.qs.length cp) (.slice am F'.ps.length cm) (.int .i64 F'.op) (.int .i64 F'.st)
 refine ⟨?_,hA⟩
 generalize (((((W.setCell ⟨P,2,none⟩ (.int .i64 F'.z)).setCell ⟨P,3,none⟩ (.slice a F'.qs.length cp)).setCell ⟨P,4,none⟩ (.slice am F'.ps.length cm)).setCell ⟨P,5,none⟩ (.int .i64 F'.op)).setCell ⟨P,6,none⟩ (.int .i64 F'.st)) = X at hA hS
 have hs := hA.size
 have key : ∀ {q : Nat} {o : Obj},q ≠ P -> W.heap[q]? = some o -> X.heap[q]? = some o := fun {q o} hq ho => (hA.block q (Array.getElem?_eq_some_iff.1 ho).1 (by omega)).trans ho
 exact ⟨key (by omega) h.box,key (by omega) h.one,key (by omega) h.two,key (by omega) h.hdr,⟨a,cp,am,cm,hS,hcm,l2,r2,o1.aside hA (by omega),o2,o3⟩,h.items.aside hA (.inl (by omega)),h.below.trans (hA.below (by omega) h.below.size),by omega⟩
theorem cellH_clean (ys : List Hd) {i : Nat} (hi : i < ys.length) (j : Nat) (hj : j < 3 * ys.length) : (if j = 3 * i + 2 then .bool false else cellH ys j) = cellH (ys.set i (cleanH (hdAt ys i))) j := by
 have e := congrArg (fun l : List Value => l[j]?) (hdL_clean ys hi)
 have hl : j < (hdL ys).length := by rw [hdL_length]; omega
 simp only [List.getElem?_set] at e
 rw [hdL_at (ys.set i (cleanH (hdAt ys i))) (by rw [List.length_set]; omega)] at e
 by_cases h : j = 3 * i + 2
 ·rw [if_pos h]
  rw [if_pos h.symm,if_pos (by rw [hdL_length]; omega)] at e
  exact Option.some.inj e
 ·rw [if_neg h]
  rw [if_neg (fun e' => h e'.symm),hdL_at ys (by omega)] at e
  exact Option.some.inj e
theorem FlSt.clean (h : FlSt w cb L P l1 r1 aj cj rm YS F W) {i : Nat} (hi : i < YS.length) : ∃ b off,aj = some ⟨b,off,none⟩ ∧ W.cell? ⟨b,off + i * 3 + 2,none⟩ = some (.bool (hdAt YS i).2.2) ∧ W.frozen? ⟨b,off + i * 3 + 2,none⟩ = false ∧
  FlSt w cb L P l1 r1 aj cj rm (YS.set i (cleanH (hdAt YS i))) F (W.setCell ⟨b,off + i * 3 + 2,none⟩ (.bool false)) ∧ Aside l1 r1 W (W.setCell ⟨b,off + i * 3 + 2,none⟩ (.bool false)) := by
 have hf := h.far
 have ho := h.items.2
 obtain ⟨b,off,rfl,hb1,hb2,hc⟩ := h.items.2.2 (by omega)
 obtain ⟨x1,x2⟩ := hc (3 * i + 2) (by omega)
 have e : off + i * 3 + 2 = off + (3 * i + 2) := by omega
 refine ⟨b,off,rfl,?_⟩
 rw [e]
 have hA : Aside l1 r1 W (W.setCell ⟨b,off + (3 * i + 2),none⟩ (.bool false)) := (Aside.refl l1 r1 W).setCell (p := ⟨b,off + (3 * i + 2),none⟩) hb1 hb2 _
 have hs := hA.size
 refine ⟨by rw [x1,cellH2],x2,?_,hA⟩
 have hset := (ho.set (i := 3 * i + 2) (by omega) (.bool false)).congr (fun j hj => cellH_clean YS hi j (by omega))
 have hl : (YS.set i (cleanH (hdAt YS i))).length = YS.length := List.length_set
 generalize (W.setCell ⟨b,off + (3 * i + 2),none⟩ (.bool false)) = X at *
 have key : ∀ {q : Nat} {o : Obj},(q < l1 ∨ r1 <= q) -> W.heap[q]? = some o -> X.heap[q]? = some o := fun {q o} hq ho => (hA.block q (Array.getElem?_eq_some_iff.1 ho).1 hq).trans ho
 obtain ⟨a,cp,am,cm,k1,k2,l2,r2,k3,k4,k5⟩ := h.own
 refine ⟨key (by omega) h.box,key (by omega) h.one,key (by omega) h.two,by rw [hl]; exact key (by omega) h.hdr,⟨a,cp,am,cm,by rw [hl]; exact key (by omega) k1,k2,l2,r2,k3.aside hA (by omega),k4,k5⟩,?_,h.below.trans (hA.below (by omega) h.below.size),by omega⟩
 rw [hl]
 exact ⟨hl,hset⟩
end
end Go.Proofs.YtgjoepdfhadmcaaGreatDoor
