/- Several texts in one: TextBase, ChipBase, TextPut. -/
import Derived.Test.YtdjifickdcnacaaDoorNBase
import Derived.SliceStrings
import Derived.Deep.Matrix
import Derived.Lib.SmallJoins
section
namespace Go.Proofs.YtdjifickdcnacaaDoor
open Go.RowKit Go.ChangeShapes Go.Deep
set_option linter.unusedVariables false
def cellT (ts : List ByteArray) (i : Nat) : Value := .string (ts.getD i ByteArray.empty)
def Texts (lo hi : Nat) (w : World) (a : Option Addr) (n : Nat) (ts : List ByteArray) : Prop := ts.length = n ∧ Reads lo hi w a n (cellT ts)
def OwnTexts (lo hi : Nat) (w : World) (a : Option Addr) (n : Nat) (ts : List ByteArray) : Prop := ts.length = n ∧ Owned lo hi w a n (cellT ts)
section
variable {lo hi : Nat} {w w' : World} {a : Option Addr} {n : Nat} {ts : List ByteArray}
theorem OwnTexts.texts (h : OwnTexts lo hi w a n ts) : Texts lo hi w a n ts := ⟨h.1,h.2.reads⟩
theorem Texts.later (h : Texts lo hi w a n ts) {B : Nat} (hb : Below B w w') (hB : hi <= B) : Texts lo hi w' a n ts := ⟨h.1,h.2.later hb hB⟩
theorem OwnTexts.later (h : OwnTexts lo hi w a n ts) {B : Nat} (hb : Below B w w') (hB : hi <= B) : OwnTexts lo hi w' a n ts := ⟨h.1,h.2.later hb hB⟩
theorem Texts.aside (h : Texts lo hi w a n ts) {l r : Nat} (hb : Aside l r w w') (hB : hi <= l ∨ r <= lo) : Texts lo hi w' a n ts := ⟨h.1,h.2.aside hb hB⟩
theorem OwnTexts.aside (h : OwnTexts lo hi w a n ts) {l r : Nat} (hb : Aside l r w w') (hB : hi <= l ∨ r <= lo) : OwnTexts lo hi w' a n ts := ⟨h.1,h.2.aside hb hB⟩
end
theorem add_plain {w : World} {x : Addr} {i : Nat} {v u : Value} (h0 : w.cell? (x.add 0) = some v) (h : w.cell? (x.add i) = some u) : ∃ b off,x = ⟨b,off,none⟩ ∧ b < w.heap.size ∧ w.cell? ⟨b,off + i,none⟩ = some u := by
 obtain ⟨b,off,spot⟩ := x
 have hs : spot = none := by simpa [Addr.add] using World.cell?_spot h0
 subst hs
 refine ⟨b,off,rfl,World.block_lt_of_cell? _ _ h0,?_⟩
 simp only [Addr.add] at h
 split at h
 ·rename_i e; subst e; exact h
 ·exact h
theorem reads_of {w : World} {x : Addr} {n : Nat} {f : Nat -> Value} (hc : ∀ i,i < n -> w.cell? (x.add i) = some (f i)) : Reads 0 w.heap.size w (some x) n f := by
 refine ⟨Nat.le_refl _,fun hn => ?_⟩
 obtain ⟨b,off,rfl,hb,_⟩ := add_plain (hc 0 hn) (hc 0 hn)
 refine ⟨b,off,rfl,Nat.zero_le _,hb,fun i hi => ?_⟩
 obtain ⟨b',off',e,_,h⟩ := add_plain (hc 0 hn) (hc i hi)
 cases e
 exact h
theorem texts_read {H : Type} {enc : TypeId × Value -> H} {P : Program} {W : World} {t e : TypeId} {a : Option Addr} {len cap : Nat} {d : DataW H} {ps : List MemPlace} (ht : P.underlying t = some (.slice e)) (he : P.underlying e = some .string) (hc : P.cellsOf e = 1)
  (h : DataW.Trod enc P W 0 (fun _ => true) true t (.slice a len cap) d ps) : ∃ ts,Texts 0 W.heap.size W a len ts ∧ (∀ s ∈ ts,s.size <= maxLen) ∧ len <= maxLen := by
 obtain ⟨fuel,hf⟩ := h
 rcases open_strings ht he hc hf with ⟨hcs,_⟩ | ⟨x,l,c,ss,hcs,_,hl,hm,hz,_,hcell,hsz⟩
 ·simp [Value.cells] at hcs
  obtain ⟨rfl,rfl,rfl⟩ := hcs
  exact ⟨[],⟨rfl,Nat.le_refl _,fun h => absurd h (Nat.lt_irrefl _)⟩,by simp,Nat.zero_le _⟩
 ·simp [Value.cells] at hcs
  obtain ⟨rfl,rfl,rfl⟩ := hcs
  simp only [if_true] at hz
  refine ⟨ss.take len,⟨by rw [List.length_take]; omega,reads_of fun i hi => ?_⟩,fun s hs => hsz s (List.mem_of_mem_take hs),by omega⟩
  rw [hcell i (by omega)]
  unfold cellT
  rw [List.getD_eq_getElem?_getD,List.getD_eq_getElem?_getD,List.getElem?_take,if_pos hi]
def Rows2 (lo hi : Nat) (w : World) (a : Option Addr) (n : Nat) (xss : List (List Int)) : Prop :=
 xss.length = n ∧ ∃ (A : Nat -> Option Addr) (C : Nat -> Nat),Reads lo hi w a n (fun i => .slice (A i) (xss.getD i []).length (C i)) ∧ ∀ i,i < n -> Ints lo hi w (A i) (xss.getD i []).length (xss.getD i [])
theorem Rows2.later {lo hi n : Nat} {w w' : World} {a : Option Addr} {xss : List (List Int)} (h : Rows2 lo hi w a n xss) {B : Nat} (hb : Below B w w') (hB : hi <= B) : Rows2 lo hi w' a n xss := by
 obtain ⟨h1,A,C,h2,h3⟩ := h
 exact ⟨h1,A,C,h2.later hb hB,fun i hi => (h3 i hi).later hb hB⟩
theorem Rows2.aside {lo hi n : Nat} {w w' : World} {a : Option Addr} {xss : List (List Int)} (h : Rows2 lo hi w a n xss) {l r : Nat} (hb : Aside l r w w') (hB : hi <= l ∨ r <= lo) : Rows2 lo hi w' a n xss := by
 obtain ⟨h1,A,C,h2,h3⟩ := h
 exact ⟨h1,A,C,h2.aside hb hB,fun i hi => (h3 i hi).aside hb hB⟩
theorem rows2_read {H : Type} {enc : TypeId × Value -> H} {P : Program} {W : World} {t e q : TypeId} {a : Option Addr} {len cap : Nat} {d : DataW H} {ps : List MemPlace} (ht : P.underlying t = some (.slice e)) (he : P.underlying e = some (.slice q)) (hq : P.underlying q = some (.int .i64)) (ce : P.cellsOf e = 1) (cq : P.cellsOf q = 1)
  (h : DataW.Trod enc P W 0 (fun _ => true) true t (.slice a len cap) d ps) : ∃ xss,Rows2 0 W.heap.size W a len xss ∧ (∀ xs ∈ xss,xs.length <= maxLen) ∧ len <= maxLen ∧ ∀ xs ∈ xss,∀ x ∈ xs,(Lit.int .i64 x).wf = true := by
 obtain ⟨fuel,hf⟩ := h
 rcases open_int_rows ht he hq ce cq hf with ⟨hcs,_⟩ | ⟨x,l,c,A,L,C,Z,hcs,_,hl,hm,_,hr⟩
 ·simp [Value.cells] at hcs
  obtain ⟨rfl,rfl,rfl⟩ := hcs
  exact ⟨[],⟨rfl,fun _ => none,fun _ => 0,⟨Nat.le_refl _,fun h => absurd h (Nat.lt_irrefl _)⟩,fun i hi => absurd hi (by omega)⟩,by simp,Nat.zero_le _,by simp⟩
 ·simp [Value.cells] at hcs
  obtain ⟨rfl,rfl,rfl⟩ := hcs
  have hg : ∀ i,i < len -> ((List.range len).map fun r => (Z r).take (L r)).getD i [] = (Z i).take (L i) := fun i hi => by
   rw [List.getD_eq_getElem?_getD,List.getElem?_map,List.getElem?_range hi]; rfl
  have hlen : ∀ i,i < len -> ((Z i).take (L i)).length = L i := fun i hi => by
   obtain ⟨_,h2,_,h4,_⟩ := hr i (by omega)
   rw [List.length_take]; omega
  refine ⟨(List.range len).map fun r => (Z r).take (L r),⟨by simp,A,C,reads_of fun i hi => ?_,fun i hi => ?_⟩,?_,by omega,?_⟩
  ·rw [hg i hi,hlen i hi]; exact (hr i (by omega)).1
  ·obtain ⟨_,h2,h3,h4,h5,h6,h7⟩ := hr i (by omega)
   rw [hg i hi]
   refine ⟨rfl,?_⟩
   rw [hlen i hi]
   cases ha : A i with
   | none =>
    have := h6 ha
    exact ⟨Nat.le_refl _,fun h => absurd h (by omega)⟩
   | some y =>
    refine reads_of fun j hj => ?_
    rw [(h7 y ha).2 j (by omega)]
    unfold cellI
    rw [List.getD_eq_getElem?_getD,List.getD_eq_getElem?_getD,List.getElem?_take,if_pos hj]
  ·intro xs hxs
   obtain ⟨r,hrr,rfl⟩ := List.mem_map.1 hxs
   rw [List.mem_range] at hrr
   obtain ⟨_,h2,h3,_⟩ := hr r (by omega)
   rw [hlen r hrr]; omega
  ·intro xs hxs z hz
   obtain ⟨r,hrr,rfl⟩ := List.mem_map.1 hxs
   rw [List.mem_range] at hrr
   obtain ⟨_,_,_,_,h5,_⟩ := hr r (by omega)
   exact h5 z (List.mem_of_mem_take hz)
end Go.Proofs.YtdjifickdcnacaaDoor
end

section
namespace Go.Proofs.YtdjifickdcnacaaDoor
open Go.RowKit Go.ChangeShapes Go.WideShapes Go.ChangeAt Go.Deep
set_option linter.unusedVariables false
abbrev Sq := List ByteArray × Int × Bool
def sqAt (qs : List Sq) (i : Nat) : Sq := qs.getD i ([],0,false)
def cellQ (A : Nat -> Option Addr) (C : Nat -> Nat) (qs : List Sq) (j : Nat) : Value :=
 if j % 3 = 0 then .slice (A (j / 3)) (sqAt qs (j / 3)).1.length (C (j / 3)) else if j % 3 = 1 then .int .i64 (sqAt qs (j / 3)).2.1 else .bool (sqAt qs (j / 3)).2.2
theorem cellQ0 (A : Nat -> Option Addr) (C : Nat -> Nat) (qs : List Sq) (i : Nat) : cellQ A C qs (3 * i) = .slice (A i) (sqAt qs i).1.length (C i) := by
 unfold cellQ; rw [if_pos (by omega),show 3 * i / 3 = i by omega]
theorem cellQ1 (A : Nat -> Option Addr) (C : Nat -> Nat) (qs : List Sq) (i : Nat) : cellQ A C qs (3 * i + 1) = .int .i64 (sqAt qs i).2.1 := by
 unfold cellQ; rw [if_neg (by omega),if_pos (by omega),show (3 * i + 1) / 3 = i by omega]
theorem cellQ2 (A : Nat -> Option Addr) (C : Nat -> Nat) (qs : List Sq) (i : Nat) : cellQ A C qs (3 * i + 2) = .bool (sqAt qs i).2.2 := by
 unfold cellQ; rw [if_neg (by omega),if_neg (by omega),show (3 * i + 2) / 3 = i by omega]
theorem cellQ_of {f : Nat -> Value} {A : Nat -> Option Addr} {C : Nat -> Nat} {qs : List Sq} {n : Nat} (h0 : ∀ i,i < n -> f (3 * i) = .slice (A i) (sqAt qs i).1.length (C i)) (h1 : ∀ i,i < n -> f (3 * i + 1) = .int .i64 (sqAt qs i).2.1) (h2 : ∀ i,i < n -> f (3 * i + 2) = .bool (sqAt qs i).2.2) :
  ∀ j,j < 3 * n -> f j = cellQ A C qs j := by
 intro j hj
 have e : j = 3 * (j / 3) ∨ j = 3 * (j / 3) + 1 ∨ j = 3 * (j / 3) + 2 := by omega
 rcases e with e | e | e
 ·rw [e,h0 _ (by omega),cellQ0]
 ·rw [e,h1 _ (by omega),cellQ1]
 ·rw [e,h2 _ (by omega),cellQ2]
def Squares (lo hi : Nat) (w : World) (a : Option Addr) (n : Nat) (qs : List Sq) : Prop :=
 qs.length = n ∧ ∃ (A : Nat -> Option Addr) (C : Nat -> Nat),Reads lo hi w a (3 * n) (cellQ A C qs) ∧ ∀ i,i < n -> Texts lo hi w (A i) (sqAt qs i).1.length (sqAt qs i).1
theorem Squares.later {lo hi n : Nat} {w w' : World} {a : Option Addr} {qs : List Sq} (h : Squares lo hi w a n qs) {B : Nat} (hb : Below B w w') (hB : hi <= B) : Squares lo hi w' a n qs := by
 obtain ⟨h1,A,C,h2,h3⟩ := h
 exact ⟨h1,A,C,h2.later hb hB,fun i hi => (h3 i hi).later hb hB⟩
theorem Squares.aside {lo hi n : Nat} {w w' : World} {a : Option Addr} {qs : List Sq} (h : Squares lo hi w a n qs) {l r : Nat} (hb : Aside l r w w') (hB : hi <= l ∨ r <= lo) : Squares lo hi w' a n qs := by
 obtain ⟨h1,A,C,h2,h3⟩ := h
 exact ⟨h1,A,C,h2.aside hb hB,fun i hi => (h3 i hi).aside hb hB⟩
def sqFits (q : Sq) : Prop := (∀ s ∈ q.1,s.size <= maxLen) ∧ q.1.length <= maxLen ∧ (Lit.int .i64 q.2.1).wf = true
theorem pick_below {α : Type} {p : Nat -> α -> Prop} {n : Nat} (z : α) (h : ∀ i,i < n -> ∃ x,p i x) : ∃ f : Nat -> α,∀ i,i < n -> p i (f i) := by
 classical
 refine ⟨fun i => if h' : i < n then (h i h').choose else z,fun i hi => ?_⟩
 simp only [hi,dif_pos]
 exact (h i hi).choose_spec
theorem add_add (x : Addr) (i j : Nat) : (x.add i).add j = x.add (i + j) := by
 unfold Addr.add
 split <;> split <;> simp_all <;> omega
theorem bool_form {H : Type} {enc : TypeId × Value -> H} {P : Program} {w : World} {base : Nat} {spare : Nat -> Bool} {held : Bool} {t : TypeId} {fuel : Nat} {v : Value} {y : DataW H × List MemPlace} (ht : P.underlying t = some .bool) (h : DataW.trod enc P w base spare held fuel t [v] = some y) : ∃ b,v = .bool b := by
 cases fuel with
 | zero => simp [DataW.trod] at h
 | succ n =>
  unfold DataW.trod at h
  rw [ht] at h
  split at h <;> simp_all
theorem squares_read {H : Type} {enc : TypeId × Value -> H} {P : Program} {W : World} {t e s : TypeId} {f0 f1 f2 : Field} {a : Option Addr} {len cap : Nat} {d : DataW H} {ps : List MemPlace} {fuel : Nat}
  (ht : P.underlying t = some (.slice e)) (he : P.underlying e = some (.struct #[f0,f1,f2])) (ce : P.cellsOf e = 3) (hone : oneCellFields P #[f0,f1,f2] = true)
  (h0 : P.underlying f0.type = some (.slice s)) (hs : P.underlying s = some .string) (cs1 : P.cellsOf s = 1) (h1 : P.underlying f1.type = some (.int .i64)) (h2 : P.underlying f2.type = some .bool)
  (h : DataW.trod enc P W 0 (fun _ => true) true fuel t [.slice a len cap] = some (d,ps)) :
  ∃ qs,Squares 0 W.heap.size W a len qs ∧ (∀ x ∈ qs,sqFits x) ∧ len <= maxLen := by
 rcases open_slice ht h with ⟨hcs,_⟩ | ⟨x,l,c,m,k,D,Pl,hcs,_,hl,hm,hmm,_,hr⟩
 ·simp at hcs
  obtain ⟨rfl,rfl,rfl⟩ := hcs
  exact ⟨[],⟨rfl,fun _ => none,fun _ => 0,⟨Nat.le_refl _,fun h => absurd h (by omega)⟩,fun i hi => absurd hi (by omega)⟩,by simp,Nat.zero_le _⟩
 ·simp at hcs
  obtain ⟨rfl,rfl,rfl⟩ := hcs
  simp only [if_true] at hmm
  obtain ⟨o0,k0⟩ := hone_of hone 0 f0 rfl
  obtain ⟨o1,k1⟩ := hone_of hone 1 f1 rfl
  obtain ⟨o2,k2⟩ := hone_of hone 2 f2 rfl
  have each : ∀ i,i < len -> ∃ (A : Option Addr) (C : Nat) (y : Sq),W.cell? (x.add (3 * i)) = some (.slice A y.1.length C) ∧ W.cell? (x.add (3 * i + 1)) = some (.int .i64 y.2.1) ∧ W.cell? (x.add (3 * i + 2)) = some (.bool y.2.2) ∧ Texts 0 W.heap.size W A y.1.length y.1 ∧ sqFits y := fun i hi => by
   obtain ⟨cs',hc,hd⟩ := hr i (by omega)
   rw [ce] at hc
   obtain ⟨_,hlen,hcell⟩ := World.cells?_some hc
   obtain ⟨y0,y1,y2,n',_,_,g0,g1,g2⟩ := trod_struct3 he hd
   match cs',hlen with
   | [v0,v1,v2],_ =>
    simp [o0,o1,o2,k0,k1,k2] at g0 g1 g2
    obtain ⟨z,e1,_,w1⟩ := DataW.trod_int h1 g1
    obtain ⟨b,e2⟩ : ∃ b,v2 = .bool b := bool_form h2 g2
    simp only [List.cons.injEq,and_true] at e1
    subst e1; subst e2
    have hadd : ∀ j,j < 3 -> (x.add (i * 3)).add j = x.add (3 * i + j) := fun j _ => by rw [add_add,Nat.mul_comm]
    have c0 := hcell 0 (by omega)
    have c1 := hcell 1 (by omega)
    have c2 := hcell 2 (by omega)
    rw [hadd 0 (by omega)] at c0
    rw [hadd 1 (by omega)] at c1
    rw [hadd 2 (by omega)] at c2
    simp at c0 c1 c2
    obtain ⟨A,L,C,e0⟩ := Go.Joins.slice_form h0 g0
    simp only [List.cons.injEq,and_true] at e0
    subst e0
    obtain ⟨ts,hts,hfit,hL⟩ := texts_read (enc := enc) (P := P) (W := W) (a := A) (len := L) (cap := C) h0 hs cs1 ⟨n',by simpa [Value.cells] using g0⟩
    have hlen' : ts.length = L := hts.1
    subst hlen'
    exact ⟨A,C,(ts,z,b),c0,c1,c2,hts,hfit,hL,w1⟩
  obtain ⟨f,hf⟩ := pick_below (α := Option Addr × Nat × Sq) (p := fun i z => W.cell? (x.add (3 * i)) = some (.slice z.1 z.2.2.1.length z.2.1) ∧ W.cell? (x.add (3 * i + 1)) = some (.int .i64 z.2.2.2.1) ∧ W.cell? (x.add (3 * i + 2)) = some (.bool z.2.2.2.2) ∧ Texts 0 W.heap.size W z.1 z.2.2.1.length z.2.2.1 ∧ sqFits z.2.2) (none,0,[],0,false) (fun i hi => by
   obtain ⟨A,C,y,hy⟩ := each i hi
   exact ⟨(A,C,y),hy⟩)
  have hg : ∀ i,i < len -> sqAt ((List.range len).map fun i => (f i).2.2) i = (f i).2.2 := fun i hi => by
   unfold sqAt
   rw [List.getD_eq_getElem?_getD,List.getElem?_map,List.getElem?_range hi]; rfl
  refine ⟨(List.range len).map fun i => (f i).2.2,⟨by simp,fun i => (f i).1,fun i => (f i).2.1,reads_of fun j hj => ?_,fun i hi => ?_⟩,?_,by omega⟩
  ·have key := cellQ_of (n := len) (f := fun j => (W.cell? (x.add j)).getD (.int .i64 0)) (A := fun i => (f i).1) (C := fun i => (f i).2.1) (qs := (List.range len).map fun i => (f i).2.2) (fun i hi => by rw [hg i hi]; simp [(hf i hi).1]) (fun i hi => by rw [hg i hi]; simp [(hf i hi).2.1]) (fun i hi => by rw [hg i hi]; simp [(hf i hi).2.2.1]) j hj
   have hs : ∃ v,W.cell? (x.add j) = some v := by
    have e : j = 3 * (j / 3) ∨ j = 3 * (j / 3) + 1 ∨ j = 3 * (j / 3) + 2 := by omega
    have hq := hf (j / 3) (by omega)
    rcases e with e | e | e
    ·rw [e]; exact ⟨_,hq.1⟩
    ·rw [e]; exact ⟨_,hq.2.1⟩
    ·rw [e]; exact ⟨_,hq.2.2.1⟩
   obtain ⟨v,hv⟩ := hs
   rw [hv] at key ⊢
   rw [<- key]; rfl
  ·rw [hg i hi]; exact (hf i hi).2.2.2.1
  ·intro y hy
   obtain ⟨i,hi,rfl⟩ := List.mem_map.1 hy
   exact (hf i (List.mem_range.1 hi)).2.2.2.2
theorem chip_read {H : Type} {enc : TypeId × Value -> H} {P : Program} {W : World} {r : Reach} {b0 : Nat} {T e s : TypeId} {g0 g1 f0 f1 f2 : Field} {v : Value} {d : DataW H} {ps : List MemPlace}
  (hT : P.underlying T = some (.struct #[g0,g1])) (honeT : oneCellFields P #[g0,g1] = true) (hC : P.cellsOf T = 2) (hg0 : P.underlying g0.type = some (.int .i64))
  (ht : P.underlying g1.type = some (.slice e)) (he : P.underlying e = some (.struct #[f0,f1,f2])) (ce : P.cellsOf e = 3) (hone : oneCellFields P #[f0,f1,f2] = true)
  (h0 : P.underlying f0.type = some (.slice s)) (hs : P.underlying s = some .string) (cs1 : P.cellsOf s = 1) (h1 : P.underlying f1.type = some (.int .i64)) (h2 : P.underlying f2.type = some .bool)
  (hv : Value.okWide P W r b0 T v) (h : DataW.Trod enc P W 0 (fun _ => true) true T v d ps) :
  ∃ (z : Int) (a : Option Addr) (len cap : Nat) (qs : List Sq),v = .agg #[.int .i64 z,.slice a len cap] ∧ (Lit.int .i64 z).wf = true ∧ Squares 0 W.heap.size W a len qs ∧ (∀ x ∈ qs,sqFits x) ∧ len <= maxLen := by
 obtain ⟨v0,v1,y0,y1,n,rfl,_,_,t0,t1⟩ := Go.Joins.open_agg2 hT honeT hC hv h
 obtain ⟨z,e0,_,k0⟩ := DataW.trod_int hg0 t0
 obtain ⟨a,len,cap,e1⟩ := Go.Joins.slice_form ht t1
 simp only [List.cons.injEq,and_true] at e0 e1
 subst e0; subst e1
 obtain ⟨qs,h3,h4,h5⟩ := squares_read ht he ce hone h0 hs cs1 h1 h2 (show DataW.trod enc P W 0 (fun _ => true) true n g1.type [.slice a len cap] = some (y1.1,y1.2) from t1)
 exact ⟨z,a,len,cap,qs,rfl,k0,h3,h4,h5⟩
theorem job_read {H : Type} {enc : TypeId × Value -> H} {P : Program} {w : World} {base : Nat} {spare : Nat -> Bool} {held : Bool} {r : Reach} {b0 : Nat} {t : TypeId} {f0 f1 f2 : Field} {v : Value} {d : DataW H} {p : List MemPlace}
  (hs : P.underlying t = some (.struct #[f0,f1,f2])) (hone : oneCellFields P #[f0,f1,f2] = true) (hC : P.cellsOf t = 3)
  (h0 : P.underlying f0.type = some (.int .i64)) (h1 : P.underlying f1.type = some (.int .i64)) (h2 : P.underlying f2.type = some .string)
  (hv : Value.okWide P w r b0 t v) (h : DataW.Trod enc P w base spare held t v d p) :
  ∃ (k q : Int) (x : ByteArray),v = .agg #[.int .i64 k,.int .i64 q,.string x] ∧ (Lit.int .i64 k).wf = true ∧ (Lit.int .i64 q).wf = true ∧ x.size <= maxLen := by
 obtain ⟨v0,v1,v2,y0,y1,y2,n,rfl,_,_,t0,t1,t2⟩ := Go.Joins.open_agg3 hs hone hC hv h
 obtain ⟨k,e0,_,k0⟩ := DataW.trod_int h0 t0
 obtain ⟨q,e1,_,k1⟩ := DataW.trod_int h1 t1
 obtain ⟨x,e2,_,k2⟩ := DataW.trod_string h2 t2
 simp only [List.cons.injEq,and_true] at e0 e1 e2
 subst e0; subst e1; subst e2
 exact ⟨k,q,x,rfl,k0,k1,k2⟩
abbrev Jb := Int × Int × ByteArray
def jbAt (js : List Jb) (i : Nat) : Jb := js.getD i (0,0,ByteArray.empty)
def cellJ (js : List Jb) (j : Nat) : Value :=
 if j % 3 = 0 then .int .i64 (jbAt js (j / 3)).1 else if j % 3 = 1 then .int .i64 (jbAt js (j / 3)).2.1 else .string (jbAt js (j / 3)).2.2
theorem cellJ0 (js : List Jb) (i : Nat) : cellJ js (3 * i) = .int .i64 (jbAt js i).1 := by
 unfold cellJ; rw [if_pos (by omega),show 3 * i / 3 = i by omega]
theorem cellJ1 (js : List Jb) (i : Nat) : cellJ js (3 * i + 1) = .int .i64 (jbAt js i).2.1 := by
 unfold cellJ; rw [if_neg (by omega),if_pos (by omega),show (3 * i + 1) / 3 = i by omega]
theorem cellJ2 (js : List Jb) (i : Nat) : cellJ js (3 * i + 2) = .string (jbAt js i).2.2 := by
 unfold cellJ; rw [if_neg (by omega),if_neg (by omega),show (3 * i + 2) / 3 = i by omega]
def Jobs (lo hi : Nat) (w : World) (a : Option Addr) (n : Nat) (js : List Jb) : Prop := js.length = n ∧ Reads lo hi w a (3 * n) (cellJ js)
def jbFits (j : Jb) : Prop := (Lit.int .i64 j.1).wf = true ∧ (Lit.int .i64 j.2.1).wf = true ∧ j.2.2.size <= maxLen
theorem jobs_read {H : Type} {enc : TypeId × Value -> H} {P : Program} {W : World} {t e : TypeId} {f0 f1 f2 : Field} {a : Option Addr} {len cap : Nat} {d : DataW H} {ps : List MemPlace}
  (ht : P.underlying t = some (.slice e)) (he : P.underlying e = some (.struct #[f0,f1,f2])) (ce : P.cellsOf e = 3) (hone : oneCellFields P #[f0,f1,f2] = true)
  (h0 : P.underlying f0.type = some (.int .i64)) (h1 : P.underlying f1.type = some (.int .i64)) (h2 : P.underlying f2.type = some .string)
  (h : DataW.Trod enc P W 0 (fun _ => true) true t (.slice a len cap) d ps) :
  ∃ js,Jobs 0 W.heap.size W a len js ∧ (∀ x ∈ js,jbFits x) ∧ len <= maxLen := by
 obtain ⟨fuel,hh⟩ := h
 rcases open_slice ht hh with ⟨hcs,_⟩ | ⟨x,l,c,m,k,D,Pl,hcs,_,hl,hm,hmm,_,hr⟩
 ·simp [Value.cells] at hcs
  obtain ⟨rfl,rfl,rfl⟩ := hcs
  exact ⟨[],⟨rfl,Nat.le_refl _,fun h => absurd h (by omega)⟩,by simp,Nat.zero_le _⟩
 ·simp [Value.cells] at hcs
  obtain ⟨rfl,rfl,rfl⟩ := hcs
  simp only [if_true] at hmm
  obtain ⟨o0,k0⟩ := hone_of hone 0 f0 rfl
  obtain ⟨o1,k1⟩ := hone_of hone 1 f1 rfl
  obtain ⟨o2,k2⟩ := hone_of hone 2 f2 rfl
  obtain ⟨f,hf⟩ := pick_below (α := Jb) (p := fun i z => W.cell? (x.add (3 * i)) = some (.int .i64 z.1) ∧ W.cell? (x.add (3 * i + 1)) = some (.int .i64 z.2.1) ∧ W.cell? (x.add (3 * i + 2)) = some (.string z.2.2) ∧ jbFits z) (n := len) (0,0,ByteArray.empty) (fun i hi => by
   obtain ⟨cs',hc,hd⟩ := hr i (by omega)
   rw [ce] at hc
   obtain ⟨_,hlen,hcell⟩ := World.cells?_some hc
   obtain ⟨y0,y1,y2,n',_,_,g0,g1,g2⟩ := trod_struct3 he hd
   match cs',hlen with
   | [v0,v1,v2],_ =>
    simp [o0,o1,o2,k0,k1,k2] at g0 g1 g2
    obtain ⟨z,e0,_,w0⟩ := DataW.trod_int h0 g0
    obtain ⟨y,e1,_,w1⟩ := DataW.trod_int h1 g1
    obtain ⟨u,e2,_,w2⟩ := DataW.trod_string h2 g2
    simp only [List.cons.injEq,and_true] at e0 e1 e2
    subst e0; subst e1; subst e2
    have hadd : ∀ j,j < 3 -> (x.add (i * 3)).add j = x.add (3 * i + j) := fun j _ => by rw [add_add,Nat.mul_comm]
    have c0 := hcell 0 (by omega)
    have c1 := hcell 1 (by omega)
    have c2 := hcell 2 (by omega)
    rw [hadd 0 (by omega)] at c0
    rw [hadd 1 (by omega)] at c1
    rw [hadd 2 (by omega)] at c2
    simp at c0 c1 c2
    exact ⟨(z,y,u),c0,c1,c2,w0,w1,w2⟩)
  have hg : ∀ i,i < len -> jbAt ((List.range len).map f) i = f i := fun i hi => by
   unfold jbAt
   rw [List.getD_eq_getElem?_getD,List.getElem?_map,List.getElem?_range hi]; rfl
  refine ⟨(List.range len).map f,⟨by simp,reads_of fun j hj => ?_⟩,?_,by omega⟩
  ·have e : j = 3 * (j / 3) ∨ j = 3 * (j / 3) + 1 ∨ j = 3 * (j / 3) + 2 := by omega
   have hq := hf (j / 3) (by omega)
   rcases e with e | e | e
   ·rw [e,cellJ0,hg _ (by omega)]; exact hq.1
   ·rw [e,cellJ1,hg _ (by omega)]; exact hq.2.1
   ·rw [e,cellJ2,hg _ (by omega)]; exact hq.2.2.1
  ·intro y hy
   obtain ⟨i,hi,rfl⟩ := List.mem_map.1 hy
   exact (hf i (List.mem_range.1 hi)).2.2.2
end Go.Proofs.YtdjifickdcnacaaDoor
end

section
namespace Go.Proofs.YtdjifickdcnacaaDoor
open Go.RowKit
set_option linter.unusedVariables false
theorem OwnTexts.put {lo hi : Nat} {w : World} {b off n k : Nat} {ts : List ByteArray} (h : OwnTexts lo hi w (some ⟨b,off,none⟩) n ts) (hk : k < n) (s : ByteArray) : OwnTexts lo hi (w.setCell ⟨b,off + k,none⟩ (.string s)) (some ⟨b,off,none⟩) n (ts.set k s) := by
 refine ⟨by simp [h.1],(h.2.set hk (.string s)).congr fun i hi => ?_⟩
 unfold cellT
 by_cases e : i = k
 ·subst e
  rw [if_pos rfl,List.getD_eq_getElem?_getD,List.getElem?_set_self (by rw [h.1]; exact hk)]
  rfl
 ·rw [if_neg e,List.getD_eq_getElem?_getD,List.getD_eq_getElem?_getD,List.getElem?_set_ne (fun h => e h.symm)]
end Go.Proofs.YtdjifickdcnacaaDoor
end

