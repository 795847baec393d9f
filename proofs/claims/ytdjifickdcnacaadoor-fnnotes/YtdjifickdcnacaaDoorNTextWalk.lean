/- Several texts in one: TextWalk, ChipSz, ChipOwn, SpareSpec, NoteDuo, TextFrom, LikeText. -/
import Derived.Test.YtdjifickdcnacaaDoorRows
import Derived.Test.YtdjifickdcnacaaDoorNTextBase
import Derived.Test.YtdjifickdcnacaaDoorNBytesBase
import Derived.Test.YtdjifickdcnacaaDoorNTextEq
import Derived.Deep.QuietTactic
import Derived.BigQuiet
import Derived.RegionTactic
import Derived.BigRegion
import Derived.Deep.RegionWith
import Derived.Test.YtdjifickdcnacaaDoorNBase
import Derived.Test.YtdjifickdcnacaaDoorNInfo
import Derived.Maps.AppendAt
section
namespace Go.Proofs.YtdjifickdcnacaaDoor
open Go.RowKit
set_option linter.unusedVariables false
set_option maxRecDepth 20000
theorem Tryd.infoStr : (Tryd.prog.info? 9).map (fun i => (i.zero,i.size,i.bytes)) = some (some (.string ByteArray.empty),1,16) := by kernel_rfl
theorem takeT_step {xs ys : List ByteArray} {n k : Nat} (hx : xs.length = n) (hy : ys.length = n) (hk : k < n) (ht : xs.take k = ys.take k) (he : xs.getD k ByteArray.empty = ys.getD k ByteArray.empty) : xs.take (k + 1) = ys.take (k + 1) := by
 rw [List.getD_eq_getElem?_getD,List.getD_eq_getElem?_getD,List.getElem?_eq_getElem (by omega),List.getElem?_eq_getElem (by omega)] at he
 simp only [Option.getD_some] at he
 rw [List.take_succ_eq_append_getElem (by omega),List.take_succ_eq_append_getElem (by omega),ht,he]
theorem takeT_fall {xs ys : List ByteArray} {k : Nat} (he : xs.getD k ByteArray.empty ≠ ys.getD k ByteArray.empty) : decide (xs = ys) = false := by
 simp; intro e; subst e; exact he rfl
theorem takeT_whole {xs ys : List ByteArray} {n k : Nat} (hx : xs.length = n) (hy : ys.length = n) (hk : n <= k) (ht : xs.take k = ys.take k) : decide (xs = ys) = true := by
 rw [List.take_of_length_le (by omega),List.take_of_length_le (by omega)] at ht
 simpa using ht
end Go.Proofs.YtdjifickdcnacaaDoor
end

section
namespace Go.Proofs.YtdjifickdcnacaaDoor
open Go.RowKit
set_option linter.unusedVariables false
set_option maxRecDepth 20000
end Go.Proofs.YtdjifickdcnacaaDoor
end

section
namespace Go.Proofs.YtdjifickdcnacaaDoor
open Go.RowKit
set_option linter.unusedVariables false
set_option maxRecDepth 20000
structure OwnSqs (lo hi : Nat) (w : World) (a : Option Addr) (n : Nat) (qs : List Sq) (g off : Nat) (A : Nat -> Option Addr) (C P : Nat -> Nat) : Prop where
 len : qs.length = n
 row : Owned g (g + 1) w a (3 * n) (cellQ A C qs)
 addr : 0 < n -> a = some ⟨g,off,none⟩
 pages : ∀ i,i < n -> OwnTexts (P i) (P i + 1) w (A i) (sqAt qs i).1.length (sqAt qs i).1
 room : ∀ i,i < n -> (sqAt qs i).1.length <= C i
 atG : lo <= g ∧ g < hi
 atP : ∀ i,i < n -> lo <= P i ∧ P i < hi
 apartG : ∀ i,i < n -> 0 < (sqAt qs i).1.length -> P i ≠ g
 apartP : ∀ i j,i < n -> j < n -> i ≠ j -> 0 < (sqAt qs i).1.length -> 0 < (sqAt qs j).1.length -> P i ≠ P j
 top : hi <= w.heap.size
def OwnSquares (lo hi : Nat) (w : World) (a : Option Addr) (n : Nat) (qs : List Sq) : Prop := ∃ g off A C P,OwnSqs lo hi w a n qs g off A C P
theorem reads_wide {lo hi lo' hi' n : Nat} {w : World} {a : Option Addr} {f : Nat -> Value} (h : Reads lo hi w a n f) (h1 : lo' <= lo) (h2 : hi <= hi') (h3 : hi' <= w.heap.size) : Reads lo' hi' w a n f :=
 ⟨h3,fun hn => by obtain ⟨b,off,e,h4,h5,h6⟩ := h.2 hn; exact ⟨b,off,e,by omega,by omega,h6⟩⟩
theorem OwnSqs.later {lo hi n g off B : Nat} {w w' : World} {a : Option Addr} {qs : List Sq} {A : Nat -> Option Addr} {C P : Nat -> Nat} (h : OwnSqs lo hi w a n qs g off A C P) (hb : Below B w w') (hB : hi <= B) : OwnSqs lo hi w' a n qs g off A C P :=
 ⟨h.len,h.row.later hb (by have := h.atG.2; omega),h.addr,fun i hi => (h.pages i hi).later hb (by have := (h.atP i hi).2; omega),h.room,h.atG,h.atP,h.apartG,h.apartP,Nat.le_trans h.top hb.size⟩
theorem OwnSquares.later {lo hi n B : Nat} {w w' : World} {a : Option Addr} {qs : List Sq} (h : OwnSquares lo hi w a n qs) (hb : Below B w w') (hB : hi <= B) : OwnSquares lo hi w' a n qs := by
 obtain ⟨g,off,A,C,P,h⟩ := h
 exact ⟨g,off,A,C,P,h.later hb hB⟩
theorem set_other {W : World} {b k o : Nat} {x : Option Obj} (h : W.heap[b]? = x) (hne : k ≠ b) (u : Value) : (W.setCell ⟨k,o,none⟩ u).heap[b]? = x := by
 rw [Go.Deep.blk_setCell_other _ _ _ _ (by exact fun e => hne (by simpa using e.symm))]; exact h
end Go.Proofs.YtdjifickdcnacaaDoor
end

section
namespace Go.Proofs.YtdjifickdcnacaaDoor
open Go.RowKit
set_option linter.unusedVariables false
set_option maxRecDepth 20000
end Go.Proofs.YtdjifickdcnacaaDoor
end

section
namespace Go.Proofs.YtdjifickdcnacaaDoor
open Go.RowKit
set_option linter.unusedVariables false
set_option maxRecDepth 20000
theorem step_appn {P : Program} {ops : Array Oper} {o : Oper} {a : Act} {w : World} {K : Act -> World -> Prop} {Q : Exit -> Act -> World -> Prop} {E : Prop}
  (hg : o.guard = none) (s x : Operand) (t : TypeId) (hop : o.op = Op.call { callee := Callee.builtin Builtin.append,args := #[s,x],argTypes := #[t,t] })
  (v1 v2 v' : Value) (w' : World) (hs : a.eval s = v1) (hx : a.eval x = v2) (hrun : (Builtin.append_ #[t,t] o.type #[v1,v2]).run P w = .ok v' w')
  (hK : K (a.put o.dst v') w') : if Region.wanted o (yielded ops a.tmps) = true then Oper.wp P o a w K Q else E := by
 have hw : Region.wanted o (yielded ops a.tmps) = true := by simp [Region.wanted,hg]
 rw [if_pos hw]
 unfold Oper.wp
 simp [execOp,hop,resolve,invoke,builtin,hs,hx,hrun,Result.andThen]
 exact hK
theorem note_one {W : World} {b : Nat} {c0 : Value} {t : TypeId} {fr : Nat × Nat} (h : W.heap[b]? = some (.cells #[c0] t fr)) : W.cell? ⟨b,0,none⟩ = some c0 := by simp [World.cell?,h]
theorem Tryd.infoStrN : (Tryd.prog.info? 9).map (fun i => (i.zero,i.size,i.bytes)) = some (some (.string ByteArray.empty),1,16) := by kernel_rfl
def TxOwn (B : Nat) (w : World) (v : Value) (ts : List ByteArray) : Prop := w.ownsRow B 9 1 v ts.length (ts.map Value.string)
theorem tx_form {B : Nat} {w : World} {v : Value} {ts : List ByteArray} (h : TxOwn B w v ts) : ∃ a c,v = .slice a ts.length c ∧ ts.length <= c := by
 rcases h.2 with ⟨rfl,h0⟩ | ⟨g,cap,cur,rfl,_,_,hc,_⟩
 ·exact ⟨none,0,by rw [h0],by omega⟩
 ·exact ⟨_,cap,rfl,hc⟩
theorem tx_later {B : Nat} {w w' : World} {v : Value} {ts : List ByteArray} (h : TxOwn B w v ts) (hb : Below w.heap.size w w') : TxOwn B w' v ts := by
 refine ⟨h.1,?_⟩
 rcases h.2 with h1 | ⟨g,cap,cur,e,h2,hg,h3⟩
 ·exact .inl h1
 ·exact .inr ⟨g,cap,cur,e,h2,(hb.block g (Array.getElem?_eq_some_iff.1 hg).1).trans hg,h3⟩
theorem tx_set {B : Nat} {w : World} {v : Value} {ts : List ByteArray} (h : TxOwn B w v ts) {p o : Nat} {cs : Array Value} {T : TypeId} {fr : Nat × Nat} (hp : w.heap[p]? = some (.cells cs T fr)) (hT : T ≠ 9) (u : Value) : TxOwn B (w.setCell ⟨p,o,none⟩ u) v ts := by
 refine ⟨h.1,?_⟩
 rcases h.2 with h1 | ⟨g,cap,cur,e,h2,hg,h3⟩
 ·exact .inl h1
 ·refine .inr ⟨g,cap,cur,e,h2,set_other hg (fun e' => ?_) u,h3⟩
  subst e'
  rw [hp] at hg
  simp only [Option.some.injEq,Obj.cells.injEq] at hg
  exact hT hg.2.1
theorem tx_texts {B : Nat} {w : World} {v : Value} {ts : List ByteArray} (h : TxOwn B w v ts) : ∃ a c,v = .slice a ts.length c ∧ ts.length <= c ∧ OwnTexts B w.heap.size w a ts.length ts := by
 rcases h.2 with ⟨rfl,h0⟩ | ⟨g,cap,cur,rfl,hB,hg,hc,hm,hs,ht⟩
 ·exact ⟨none,0,by rw [h0],by omega,rfl,Nat.le_refl _,fun hn => absurd h0 (by omega)⟩
 ·refine ⟨_,cap,rfl,hc,rfl,Nat.le_refl _,fun hn => ⟨g,0,rfl,hB,(Array.getElem?_eq_some_iff.1 hg).1,fun i hi => ?_⟩⟩
  have hl : ts.length * 1 = ts.length := Nat.mul_one _
  have e1 : cur.toList.take ts.length = ts.map Value.string := by rw [<- hl]; exact ht
  have e2 : cur[i]? = some (Value.string (ts.getD i ByteArray.empty)) := by
   have h5 := congrArg (fun l : List Value => l[i]?) e1
   simp only [List.getElem?_take,hi,if_true,List.getElem?_map,Array.getElem?_toList] at h5
   rw [h5,List.getD_eq_getElem?_getD,List.getElem?_eq_getElem hi]
   rfl
  refine ⟨?_,by simp [World.frozen?,hg]⟩
  rw [Nat.zero_add]
  simp only [World.cell?,hg]
  exact e2
theorem tx_app {t : TypeId} (ht : Tryd.prog.underlying t = some (.slice 9)) {B : Nat} {w : World} {v : Value} {ts : List ByteArray} (ho : TxOwn B w v ts) (hB : B <= w.heap.size) {L : Nat} {x : ByteArray} (hL : w.heap[L]? = some (.cells #[.string x] 9)) (hn : ts.length <= 1048576) :
  ∃ v' w',(Builtin.append_ #[t,t] t #[v,.slice (some ⟨L,0,none⟩) 1 1]).run Tryd.prog w = .ok v' w' ∧ TxOwn B w' v' (ts ++ [x]) ∧ w.grownBy w' v.ownBlock ∧ (v'.ownBlock = v.ownBlock ∨ v'.ownBlock = some w.heap.size) := by
 obtain ⟨i0,hi0,hz0,hz1,hz2⟩ := info_parts Tryd.infoStrN
 obtain ⟨v',w',h1,h2,h3,_,h5⟩ := run_append_own_at (P := Tryd.prog) w B t t 9 i0 (.string ByteArray.empty) 1 16 ht hi0 hz0 hz1 hz2 rfl (by decide) v ts.length (ts.map Value.string) ho ⟨L,0,none⟩ 1 1 [.string x] rfl
  (fun j u hj => by
   have : j = 0 := by
    rcases j with _ | j
    ·rfl
    ·simp at hj
   subst this
   simp only [List.getElem?_cons_zero,Option.some.injEq] at hj
   subst hj
   simp [World.cell?,Addr.add,hL])
  (by intro u hu; simp only [List.mem_singleton] at hu; subst hu; rfl) (by unfold maxLen; omega) (by omega) hB
 refine ⟨v',w',h1,?_,h3,h5⟩
 show World.ownsRow _ _ _ _ _ (ts ++ [x]).length ((ts ++ [x]).map Value.string)
 rw [List.length_append,List.map_append]
 exact h2
def Duo (B pw pt : Nat) (ws ts : List ByteArray) (W : World) : Prop :=
 ∃ vw vt,W.heap[pw]? = some (.cells #[vw] 24) ∧ W.heap[pt]? = some (.cells #[vt] 24) ∧ TxOwn B W vw ws ∧ TxOwn B W vt ts ∧ (∀ k,vw.ownBlock = some k -> vt.ownBlock ≠ some k) ∧ B <= pw ∧ B <= pt ∧ pw ≠ pt
structure Duof (B pw pt : Nat) (w w' : World) : Prop where
 below : Below B w w'
 other : ∀ (k : Nat) (cs : Array Value) (T : TypeId) (fr : Nat × Nat),k ≠ pw -> k ≠ pt -> T ≠ 9 -> w.heap[k]? = some (.cells cs T fr) -> w'.heap[k]? = some (.cells cs T fr)
theorem Duof.trans {B pw pt : Nat} {w w1 w2 : World} (h : Duof B pw pt w w1) (k : Duof B pw pt w1 w2) : Duof B pw pt w w2 := ⟨h.below.trans k.below,fun q cs T fr h1 h2 h3 h4 => k.other q cs T fr h1 h2 h3 (h.other q cs T fr h1 h2 h3 h4)⟩
theorem Duof.swap {B pw pt : Nat} {w w1 : World} (h : Duof B pw pt w w1) : Duof B pt pw w w1 := ⟨h.below,fun q cs T fr h1 h2 => h.other q cs T fr h2 h1⟩
theorem Duof.refl (B pw pt : Nat) (w : World) : Duof B pw pt w w := ⟨Below.refl _ _,fun _ _ _ _ _ _ _ h => h⟩
theorem Duof.on {B pw pt : Nat} {w w1 w2 : World} (h : Duof B pw pt w w1) (hb : Below w1.heap.size w1 w2) (hB : B <= w1.heap.size) : Duof B pw pt w w2 := ⟨h.below.trans (hb.mono hB),fun q cs T fr h1 h2 h3 h4 => block_on (h.other q cs T fr h1 h2 h3 h4) hb⟩
theorem Duo.swap {B pw pt : Nat} {ws ts : List ByteArray} {W : World} (h : Duo B pw pt ws ts W) : Duo B pt pw ts ws W := by
 obtain ⟨vw,vt,h1,h2,h3,h4,h5,h6,h7,h8⟩ := h
 exact ⟨vt,vw,h2,h1,h4,h3,fun k e e' => h5 k e' e,h7,h6,fun e => h8 e.symm⟩
theorem Duo.on {B pw pt : Nat} {ws ts : List ByteArray} {W W' : World} (h : Duo B pw pt ws ts W) (hb : Below W.heap.size W W') : Duo B pw pt ws ts W' := by
 obtain ⟨vw,vt,h1,h2,h3,h4,h5,h6,h7,h8⟩ := h
 exact ⟨vw,vt,block_on h1 hb,block_on h2 hb,tx_later h3 hb,tx_later h4 hb,h5,h6,h7,h8⟩
theorem Duo.size {B pw pt : Nat} {ws ts : List ByteArray} {W : World} (h : Duo B pw pt ws ts W) : B <= W.heap.size := by
 obtain ⟨vw,vt,h1,h2,h3,h4,h5,h6,h7,h8⟩ := h
 have := (Array.getElem?_eq_some_iff.1 h1).1
 omega
theorem own_type {B : Nat} {w : World} {v : Value} {ts : List ByteArray} (h : TxOwn B w v ts) {p : Nat} {cs : Array Value} {T : TypeId} {fr : Nat × Nat} (hp : w.heap[p]? = some (.cells cs T fr)) (hT : T ≠ 9) : some p ≠ v.ownBlock := by
 intro e
 rcases h.2 with ⟨e1,_⟩ | ⟨g,cap,cur,e1,h2,hg,h3⟩
 ·rw [e1] at e; cases e
 ·rw [e1] at e
  have e' : some p = some g := e
  simp only [Option.some.injEq] at e'
  subst e'
  rw [hp] at hg
  simp only [Option.some.injEq,Obj.cells.injEq] at hg
  exact hT hg.2.1
theorem duo_app {B pw pt : Nat} {ws ts : List ByteArray} {W W1 : World} (hT : 24 ≠ 9) (h : Duo B pw pt ws ts W) (hb : Below W.heap.size W W1) {vw : Value} (hv : W.heap[pw]? = some (.cells #[vw] 24)) {x : ByteArray} (hn : ws.length <= 1048576) :
  ∃ a' c' w',(Builtin.append_ #[24,24] 24 #[vw,.slice (some ⟨W1.heap.size,0,none⟩) 1 1]).run Tryd.prog (W1.alloc (.cells #[.string x] 9)) = .ok (.slice a' (ws ++ [x]).length c') w' ∧ w'.heap[pw]? = some (.cells #[vw] 24) ∧ Duo B pw pt (ws ++ [x]) ts (w'.setCell ⟨pw,0,none⟩ (.slice a' (ws ++ [x]).length c')) ∧ Duof B pw pt W (w'.setCell ⟨pw,0,none⟩ (.slice a' (ws ++ [x]).length c')) := by
 have hb2 : Below W.heap.size W (W1.alloc (.cells #[.string x] 9)) := hb.alloc hb.size _
 have hB := h.size
 obtain ⟨vw',vt,h1,h2,h3,h4,h5,h6,h7,h8⟩ := h
 have e : vw' = vw := by rw [h1] at hv; simpa using hv
 subst e
 obtain ⟨W2,hW2⟩ : ∃ W2,W2 = W1.alloc (.cells #[.string x] 9) := ⟨_,rfl⟩
 have hL : W2.heap[W1.heap.size]? = some (.cells #[.string x] 9) := by rw [hW2]; exact heap_new _ _
 rw [<- hW2] at hb2 ⊢
 have hs2 := hb2.size
 have k1 := block_on h1 hb2
 have k2 := block_on h2 hb2
 have k3 := tx_later h3 hb2
 have k4 := tx_later h4 hb2
 obtain ⟨v',w',r1,r2,r3,r4⟩ := tx_app (t := 24) Tryd.underlying24 k3 (by omega) hL hn
 have q1 : w'.heap[pw]? = some (.cells #[vw'] 24) := (r3.block pw (Array.getElem?_eq_some_iff.1 k1).1 (own_type k3 k1 hT)).trans k1
 have q2 : w'.heap[pt]? = some (.cells #[vt] 24) := (r3.block pt (Array.getElem?_eq_some_iff.1 k2).1 (own_type k3 k2 hT)).trans k2
 have q4 : TxOwn B w' vt ts := World.ownsRow.kept k4 r3 (by
  cases hvt : vt.ownBlock with
  | none => exact .inl rfl
  | some g => exact .inr (fun e => h5 g e.symm hvt))
 have qs : B <= w'.heap.size := Nat.le_trans (by omega) r3.size
 obtain ⟨a',c',e',_⟩ := tx_form r2
 subst e'
 refine ⟨a',c',w',r1,q1,⟨_,vt,?_,set_other q2 h8 _,tx_set r2 q1 hT _,tx_set q4 q1 hT _,?_,h6,h7,h8⟩,?_,?_⟩
 ·have := set_block q1 0 (.slice a' (ws ++ [x]).length c') (by simp)
  simpa using this
 ·intro k e1 e2
  rcases r4 with e | e
  ·exact h5 k (e.symm.trans e1) e2
  ·rw [e] at e1
   simp only [Option.some.injEq] at e1
   have := (World.ownsRow.lt k4 k e2).2
   omega
 ·have hgw : Below B W w' := (hb2.mono hB).grown r3 (by omega) (fun k hk => (World.ownsRow.lt k3 k hk).1)
  exact hgw.setCell (p := ⟨pw,0,none⟩) h6 _
 ·intro k cs T fr n1 n2 n3 hk
  have hk2 := block_on hk hb2
  have : w'.heap[k]? = some (.cells cs T fr) := (r3.block k (Array.getElem?_eq_some_iff.1 hk2).1 (own_type k3 hk2 n3)).trans hk2
  exact set_other this (fun e => n1 e.symm) _
end Go.Proofs.YtdjifickdcnacaaDoor
end

section
namespace Go.Proofs.YtdjifickdcnacaaDoor
open Go.RowKit
set_option linter.unusedVariables false
set_option maxRecDepth 20000
end Go.Proofs.YtdjifickdcnacaaDoor
end

section
namespace Go.Proofs.YtdjifickdcnacaaDoor
open Go.RowKit
set_option linter.unusedVariables false
set_option maxRecDepth 20000
set_option maxHeartbeats 400000 in
theorem likeTexts_any (a : Option Addr) (n cap : Nat) (xs : List ByteArray) (a' : Option Addr) (n' cap' : Nat) (ys : List ByteArray) (w : World) {lo hi lo' hi' : Nat} (h : Texts lo hi w a n xs) (h' : Texts lo' hi' w a' n' ys) (hn : n <= 9223372036854775807) (hn' : n' <= 9223372036854775807) :
  Calls Tryd.prog 30 #[.slice a n cap,.slice a' n' cap'] w fun e w' => e = .returned (.bool (decide (xs = ys))) ∧ Below w.heap.size w w' := by
 obtain ⟨hl,hsz,hx⟩ := h
 obtain ⟨hl',hsz',hx'⟩ := h'
 have HL : Hid (xs.length = n) := hl
 have HL' : Hid (ys.length = n') := hl'
 clear hl hl'
 by_cases he : n = n'
 ·subst he
  go_enter Tryd.func30,Tryd.ntmps30
  go_wp2
  go_loopw [5] (fun i wr => ∃ k : Nat,k <= n ∧ i = .int .i64 k ∧ xs.take k = ys.take k ∧ Below w.heap.size w wr) (fun i _ => n - (intOf i).toNat)
  case atStart => exact ⟨0,Nat.zero_le _,rfl,rfl,Below.refl _ _⟩
  case round =>
   obtain ⟨k,hk,rfl,hall,hbel⟩ := hrel
   have HA : Hid (xs.take k = ys.take k) := hall
   clear hall
   by_cases hlt : k < n
   ·obtain ⟨b,off,rfl,_,hb,hc⟩ := hx (by omega)
    obtain ⟨b',off',rfl,_,hb',hc'⟩ := hx' (by omega)
    have hck : wr.cell? ⟨b,off + k,none⟩ = some (.string (xs.getD k ByteArray.empty)) := (hbel.cell (p := ⟨b,off + k,none⟩) (by show b < _; omega)).trans (hc k hlt)
    have hck' : wr.cell? ⟨b',off' + k,none⟩ = some (.string (ys.getD k ByteArray.empty)) := (hbel.cell (p := ⟨b',off' + k,none⟩) (by show b' < _; omega)).trans (hc' k hlt)
    clear hc hx hc' hx'
    obtain ⟨z,hz⟩ : ∃ z,z = xs.getD k ByteArray.empty := ⟨_,rfl⟩
    rw [<- hz] at hck
    have HZ : Hid (z = xs.getD k ByteArray.empty) := hz
    clear hz
    obtain ⟨y,hy⟩ : ∃ z,z = ys.getD k ByteArray.empty := ⟨_,rfl⟩
    rw [<- hy] at hck'
    have HY : Hid (y = ys.getD k ByteArray.empty) := hy
    clear hy
    by_cases h0 : z = y
    ·subst h0
     have e0 := text_same z
     go_wp2
     go_quiet (fail)
     go_wp2
     go_roundw
     case rel => exact ⟨k + 1,by omega,by go_num,takeT_step HL.out HL'.out hlt HA.out (HZ.out.symm.trans HY.out),below_drewN hbel _⟩
     case measure => simp [intOf]; omega
    ·have e0 := text_other h0
     go_wp2
     go_quiet (fail)
     go_wp2
     go_ret
     exact ⟨ret_bool (takeT_fall (k := k) (by rw [<- HZ.out,<- HY.out]; exact h0)).symm,below_drewN hbel _⟩
   ·go_wp2
    go_ret
    exact ⟨ret_bool (takeT_whole HL.out HL'.out (by omega) HA.out).symm,hbel⟩
 ·have e0 : ((n : Int) == (n' : Int)) = false := by simp; omega
  have e1 : ((n : Int) != (n' : Int)) = true := by simp; omega
  go_enter Tryd.func30,Tryd.ntmps30
  go_wp2
  go_ret
  exact ⟨ret_bool (by simp; intro e; subst e; exact he (HL.out.symm.trans HL'.out)),Below.refl _ _⟩
end Go.Proofs.YtdjifickdcnacaaDoor
end

