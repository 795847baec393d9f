/- Several texts in one: Base, ResCell, BitsL, Xor64, CheckMath, HamMath, WeaveMath. -/
import Derived.WalkKit
import Derived.WalkSpells
import Derived.WalkLawsBesides
import Derived.WalkSmall
import Derived.Below
import Derived.Deep.OwnRows
import Derived.Laws.Rows
import Derived.Laws.BitsAllLaws
section
namespace Go.Proofs.Ytfogmdnkpkofiaa
open Go.RowKit
theorem hide {p : Prop} (h : p) : Hid p := h
structure Aside (lo hi : Nat) (w w' : World) : Prop where
 os : w'.os = w.os
 tape : w'.tape = w.tape
 output : w'.output = w.output
 size : w.heap.size <= w'.heap.size
 block : ∀ k,k < w.heap.size -> k < lo ∨ hi <= k -> w'.heap[k]? = w.heap[k]?
theorem Aside.refl (lo hi : Nat) (w : World) : Aside lo hi w w := ⟨rfl,rfl,rfl,Nat.le_refl _,fun _ _ _ => rfl⟩
theorem Aside.trans {lo hi : Nat} {a b c : World} (h : Aside lo hi a b) (k : Aside lo hi b c) : Aside lo hi a c :=
 ⟨k.os.trans h.os,k.tape.trans h.tape,k.output.trans h.output,Nat.le_trans h.size k.size,fun i hi h' => (k.block i (Nat.lt_of_lt_of_le hi h.size) h').trans (h.block i hi h')⟩
theorem Aside.setCell {lo hi : Nat} {a w : World} (h : Aside lo hi a w) {p : Addr} (h1 : lo <= p.block) (h2 : p.block < hi) (u : Value) : Aside lo hi a (w.setCell p u) :=
 h.trans ⟨rfl,rfl,rfl,by rw [Go.Deep.nblk_setCell]; exact Nat.le_refl _,fun k _ hk => Go.Deep.blk_setCell_other _ _ _ _ (by omega)⟩
theorem Aside.below {lo hi : Nat} {w w' : World} (h : Aside lo hi w w') {B : Nat} (hB : B <= lo) (hw : B <= w.heap.size) : Below B w w' :=
 ⟨h.os,h.tape,h.output,h.size,fun k hk => h.block k (by omega) (.inl (by omega))⟩
theorem below_here {w w' w'' : World} (h : Below w.heap.size w w') (k : Below w'.heap.size w' w'') : Below w.heap.size w w'' := h.trans (k.mono h.size)
def Reads (lo hi : Nat) (w : World) (a : Option Addr) (n : Nat) (f : Nat -> Value) : Prop :=
 hi <= w.heap.size ∧ (0 < n -> ∃ b off,a = some ⟨b,off,none⟩ ∧ lo <= b ∧ b < hi ∧ ∀ i,i < n -> w.cell? ⟨b,off + i,none⟩ = some (f i))
def Owned (lo hi : Nat) (w : World) (a : Option Addr) (n : Nat) (f : Nat -> Value) : Prop :=
 hi <= w.heap.size ∧ (0 < n -> ∃ b off,a = some ⟨b,off,none⟩ ∧ lo <= b ∧ b < hi ∧ ∀ i,i < n -> w.cell? ⟨b,off + i,none⟩ = some (f i) ∧ w.frozen? ⟨b,off + i,none⟩ = false)
section
variable {lo hi : Nat} {w w' : World} {a : Option Addr} {n : Nat} {f g : Nat -> Value}
theorem Owned.reads (h : Owned lo hi w a n f) : Reads lo hi w a n f :=
 ⟨h.1,fun hn => by obtain ⟨b,off,h1,h2,h3,h4⟩ := h.2 hn; exact ⟨b,off,h1,h2,h3,fun i hi => (h4 i hi).1⟩⟩
theorem Reads.congr (h : Reads lo hi w a n f) (e : ∀ i,i < n -> f i = g i) : Reads lo hi w a n g :=
 ⟨h.1,fun hn => by obtain ⟨b,off,h1,h2,h3,h4⟩ := h.2 hn; exact ⟨b,off,h1,h2,h3,fun i hi => by rw [h4 i hi,e i hi]⟩⟩
theorem Owned.congr (h : Owned lo hi w a n f) (e : ∀ i,i < n -> f i = g i) : Owned lo hi w a n g :=
 ⟨h.1,fun hn => by obtain ⟨b,off,h1,h2,h3,h4⟩ := h.2 hn; exact ⟨b,off,h1,h2,h3,fun i hi => by rw [(h4 i hi).1,e i hi]; exact ⟨rfl,(h4 i hi).2⟩⟩⟩
theorem Reads.of (h : Reads lo hi w a n f) (hs : w.heap.size <= w'.heap.size) (hb : ∀ k,lo <= k -> k < hi -> w'.heap[k]? = w.heap[k]?) : Reads lo hi w' a n f :=
 ⟨Nat.le_trans h.1 hs,fun hn => by
  obtain ⟨b,off,h1,h2,h3,h4⟩ := h.2 hn
  exact ⟨b,off,h1,h2,h3,fun i hi => (World.cell?_of_block (w := w) (a := ⟨b,off + i,none⟩) (hb b h2 h3)).trans (h4 i hi)⟩⟩
theorem Owned.of (h : Owned lo hi w a n f) (hs : w.heap.size <= w'.heap.size) (hb : ∀ k,lo <= k -> k < hi -> w'.heap[k]? = w.heap[k]?) : Owned lo hi w' a n f :=
 ⟨Nat.le_trans h.1 hs,fun hn => by
  obtain ⟨b,off,h1,h2,h3,h4⟩ := h.2 hn
  exact ⟨b,off,h1,h2,h3,fun i hi => ⟨(World.cell?_of_block (w := w) (a := ⟨b,off + i,none⟩) (hb b h2 h3)).trans (h4 i hi).1,(World.frozen?_of_block (w := w) (a := ⟨b,off + i,none⟩) (hb b h2 h3)).trans (h4 i hi).2⟩⟩⟩
theorem Reads.later (h : Reads lo hi w a n f) {B : Nat} (hb : Below B w w') (hB : hi <= B) : Reads lo hi w' a n f := h.of hb.size fun k _ hk => hb.block k (by omega)
theorem Owned.later (h : Owned lo hi w a n f) {B : Nat} (hb : Below B w w') (hB : hi <= B) : Owned lo hi w' a n f := h.of hb.size fun k _ hk => hb.block k (by omega)
theorem Reads.aside (h : Reads lo hi w a n f) {l r : Nat} (hb : Aside l r w w') (hB : hi <= l ∨ r <= lo) : Reads lo hi w' a n f :=
 h.of hb.size fun k h1 h2 => hb.block k (by have := h.1; omega) (by omega)
theorem Owned.aside (h : Owned lo hi w a n f) {l r : Nat} (hb : Aside l r w w') (hB : hi <= l ∨ r <= lo) : Owned lo hi w' a n f :=
 h.of hb.size fun k h1 h2 => hb.block k (by have := h.1; omega) (by omega)
theorem Reads.drop {b off : Nat} (h : Reads lo hi w (some ⟨b,off,none⟩) n f) (k : Nat) : Reads lo hi w (some ⟨b,off + k,none⟩) (n - k) (fun i => f (k + i)) :=
 ⟨h.1,fun hn => by
  obtain ⟨b',off',h1,h2,h3,h4⟩ := h.2 (by omega)
  simp only [Option.some.injEq,Addr.mk.injEq,and_true] at h1
  obtain ⟨rfl,rfl⟩ := h1
  exact ⟨b,off + k,rfl,h2,h3,fun i hi => by rw [Nat.add_assoc]; exact h4 (k + i) (by omega)⟩⟩
theorem Owned.set {b off : Nat} (h : Owned lo hi w (some ⟨b,off,none⟩) n f) {i : Nat} (hi' : i < n) (v : Value) :
  Owned lo hi (w.setCell ⟨b,off + i,none⟩ v) (some ⟨b,off,none⟩) n (fun j => if j = i then v else f j) :=
 ⟨by rw [Go.Deep.nblk_setCell]; exact h.1,fun hn => by
  obtain ⟨b',off',h1,h2,h3,h4⟩ := h.2 hn
  simp only [Option.some.injEq,Addr.mk.injEq,and_true] at h1
  obtain ⟨rfl,rfl⟩ := h1
  refine ⟨b,off,rfl,h2,h3,fun j hj => ⟨?_,by rw [World.frozen?_setCell]; exact (h4 j hj).2⟩⟩
  by_cases e : j = i
  ·subst e
   simp only [if_true]
   exact World.cell?_setCell_same _ _ _ (h4 j hj).1
  ·simp only [if_neg e]
   rw [World.cell?_setCell_other _ _ _ _ (by intro e'; simp only [Addr.mk.injEq] at e'; omega)]
   exact (h4 j hj).1⟩
end
theorem Owned.at0 {lo hi : Nat} {w : World} {b n : Nat} {f : Nat -> Value} (h : Owned lo hi w (some ⟨b,0,none⟩) n f) {i : Nat} (hi' : i < n) : w.cell? ⟨b,i,none⟩ = some (f i) ∧ w.frozen? ⟨b,i,none⟩ = false ∧ lo <= b ∧ b < hi := by
 obtain ⟨b',off',h1,h2,h3,h4⟩ := h.2 (by omega)
 simp only [Option.some.injEq,Addr.mk.injEq,and_true] at h1
 obtain ⟨rfl,rfl⟩ := h1
 have := h4 i hi'
 simp only [Nat.zero_add] at this
 exact ⟨this.1,this.2,h2,h3⟩
theorem Owned.set0 {lo hi : Nat} {w : World} {b n : Nat} {f : Nat -> Value} (h : Owned lo hi w (some ⟨b,0,none⟩) n f) {i : Nat} (hi' : i < n) (v : Value) :
  Owned lo hi (w.setCell ⟨b,i,none⟩ v) (some ⟨b,0,none⟩) n (fun j => if j = i then v else f j) := by
 have := h.set hi' v
 simpa using this
theorem Owned.drew {lo hi : Nat} {w : World} {a : Option Addr} {n : Nat} {f : Nat -> Value} (h : Owned lo hi w a n f) : Owned lo hi w.drew a n f := h
def cellI (xs : List Int) (i : Nat) : Value := .int .i64 (xs.getD i 0)
def Ints (lo hi : Nat) (w : World) (a : Option Addr) (n : Nat) (xs : List Int) : Prop := xs.length = n ∧ Reads lo hi w a n (cellI xs)
def OwnInts (lo hi : Nat) (w : World) (a : Option Addr) (n : Nat) (xs : List Int) : Prop := xs.length = n ∧ Owned lo hi w a n (cellI xs)
section
variable {lo hi : Nat} {w w' : World} {a : Option Addr} {n : Nat} {xs : List Int}
theorem OwnInts.ints (h : OwnInts lo hi w a n xs) : Ints lo hi w a n xs := ⟨h.1,h.2.reads⟩
theorem Ints.later (h : Ints lo hi w a n xs) {B : Nat} (hb : Below B w w') (hB : hi <= B) : Ints lo hi w' a n xs := ⟨h.1,h.2.later hb hB⟩
theorem OwnInts.later (h : OwnInts lo hi w a n xs) {B : Nat} (hb : Below B w w') (hB : hi <= B) : OwnInts lo hi w' a n xs := ⟨h.1,h.2.later hb hB⟩
theorem Ints.aside (h : Ints lo hi w a n xs) {l r : Nat} (hb : Aside l r w w') (hB : hi <= l ∨ r <= lo) : Ints lo hi w' a n xs := ⟨h.1,h.2.aside hb hB⟩
theorem OwnInts.aside (h : OwnInts lo hi w a n xs) {l r : Nat} (hb : Aside l r w w') (hB : hi <= l ∨ r <= lo) : OwnInts lo hi w' a n xs := ⟨h.1,h.2.aside hb hB⟩
end
theorem own_made0 (w : World) (t : TypeId) : (w.alloc (.cells #[] t)).ownsRow w.heap.size t 1 (.slice (some ⟨w.heap.size,0,none⟩) 0 0) 0 [] := by
 have hb : (w.alloc (.cells #[] t)).heap[w.heap.size]? = some (.cells #[] t (0,0)) := by
  show (w.heap.push _)[w.heap.size]? = _
  simp
 exact ⟨rfl,.inr ⟨w.heap.size,0,#[],rfl,Nat.le_refl _,hb,Nat.le_refl _,Nat.zero_le _,rfl,rfl⟩⟩
theorem owned_of_own {w : World} {base e n : Nat} {v : Value} {xs : List Value} (h : w.ownsRow base e 1 v n xs) :
  ∃ a cap,v = .slice a n cap ∧ n <= cap ∧ xs.length = n ∧ (0 < n -> ∃ g,a = some ⟨g,0,none⟩) ∧ Owned base w.heap.size w a n (fun i => xs.getD i (.int .i64 0)) := by
 obtain ⟨hlen,h⟩ := h
 rcases h with ⟨rfl,rfl⟩ | ⟨g,cap,cur,rfl,hg1,hg2,hn,_,hcs,htake⟩
 ·exact ⟨none,0,rfl,Nat.le_refl _,by simpa using hlen,fun h => absurd h (Nat.lt_irrefl _),Nat.le_refl _,fun h => absurd h (Nat.lt_irrefl _)⟩
 ·have hlt : g < w.heap.size := (Array.getElem?_eq_some_iff.1 hg2).1
  refine ⟨_,cap,rfl,hn,by simpa using hlen,fun _ => ⟨g,rfl⟩,Nat.le_refl _,fun _ => ⟨g,0,rfl,hg1,hlt,fun i hi => ⟨?_,?_⟩⟩⟩
  ·have h1 : i < cur.size := by omega
   simp only [World.cell?,hg2,Nat.zero_add]
   rw [<- htake,Nat.mul_one,List.getD_eq_getElem?_getD,List.getElem?_take,if_pos hi]
   simp [h1]
  ·simp [World.frozen?,hg2]
theorem map_cell (xs : List Int) (i : Nat) (h : i < xs.length) : (xs.map (Value.int .i64)).getD i (.int .i64 0) = cellI xs i := by
 simp [cellI,List.getD_eq_getElem?_getD,List.getElem?_eq_getElem h]
theorem ret_bool {a b : Bool} (h : a = b) : Ending.returned (.bool a) = .returned (.bool b) := by rw [h]
theorem ret_i64 {a b : Int} (h : a = b) : Ending.returned (.int .i64 a) = .returned (.int .i64 b) := by rw [h]
theorem take_snoc (xs : List Int) (k : Nat) (h : k < xs.length) : xs.take (k + 1) = xs.take k ++ [xs.getD k 0] := by
 rw [List.take_succ_eq_append_getElem h,List.getD_eq_getElem?_getD,List.getElem?_eq_getElem h]; rfl
def inB (x lo hi : Int) : Bool := decide (lo <= x) && decide (x <= hi)
def bit (b : Int) : Bool := b == 0 || b == 1
end Go.Proofs.Ytfogmdnkpkofiaa
end

section
namespace Go.Proofs.Ytfogmdnkpkofiaa
open Go.RowKit
theorem results_cell {fn : Func} {P : Program} {w : World} {t : Tmp} {ty : TypeId} {tmps : Array Value} {a : Addr} {v : Value} (h : fn.results = #[.cell t ty]) (ht : tmps.getD t undef = .pointer (some a)) (hl : (loadVar ty a).run P w = .ok v w) :
  (results fn tmps).run P w = .ok v w := by
 have ht' : tmps[t]?.getD undef = .pointer (some a) := by simpa using ht
 simp [results,h,ht',asAddr,hl]
theorem results_ct {fn : Func} {P : Program} {w : World} {t u : Tmp} {ty : TypeId} {tmps : Array Value} {a : Addr} {v : Value} (h : fn.results = #[.cell t ty,.tmp u]) (ht : tmps.getD t undef = .pointer (some a)) (hl : (loadVar ty a).run P w = .ok v w) :
  (results fn tmps).run P w = .ok (.tuple #[v,tmps.getD u undef]) w := by
 have ht' : tmps[t]?.getD undef = .pointer (some a) := by simpa using ht
 simp [results,h,ht',asAddr,hl]
theorem heap_new (w : World) (o : Obj) : (w.alloc o).heap[w.heap.size]? = some o := by
 show (w.heap.push _)[w.heap.size]? = _
 simp
theorem heap_at {w : World} {o : Obj} {g : Nat} (h : g = w.heap.size) : (w.alloc o).heap[g]? = some o := by subst h; exact heap_new w o
theorem heap_old {w : World} {o : Obj} {k : Nat} {b : Obj} (h : w.heap[k]? = some b) : (w.alloc o).heap[k]? = some b := by
 have hk : k < w.heap.size := (Array.getElem?_eq_some_iff.1 h).1
 show (w.heap.push _)[k]? = _
 rw [Array.getElem?_push_lt hk]
 rw [Array.getElem?_eq_getElem hk] at h
 exact h
theorem block_on {w w' : World} {b : Nat} {o : Obj} (h : w.heap[b]? = some o) (hb : Below w.heap.size w w') : w'.heap[b]? = some o :=
 (hb.block b (Array.getElem?_eq_some_iff.1 h).1).trans h
theorem four_cells {W : World} {b : Nat} {c0 c1 c2 c3 : Value} {t : TypeId} {fr : Nat × Nat} (h : W.heap[b]? = some (.cells #[c0,c1,c2,c3] t fr)) :
  W.cell? ⟨b,0,none⟩ = some c0 ∧ W.cell? ⟨b,1,none⟩ = some c1 ∧ W.cell? ⟨b,2,none⟩ = some c2 ∧ W.cell? ⟨b,3,none⟩ = some c3 := by
 simp [World.cell?,h]
theorem four_frozen {W : World} {b : Nat} {cs : Array Value} {t : TypeId} (h : W.heap[b]? = some (.cells cs t (0,0))) (j : Nat) : W.frozen? ⟨b,j,none⟩ = false := by
 simp [World.frozen?,h]
theorem set_block {W : World} {b : Nat} {cs : Array Value} {t : TypeId} {fr : Nat × Nat} (h : W.heap[b]? = some (.cells cs t fr)) (j : Nat) (v : Value) (hj : j < cs.size) : (W.setCell ⟨b,j,none⟩ v).heap[b]? = some (.cells (cs.set j v hj) t fr) := by
 obtain ⟨hb,hg⟩ := Array.getElem?_eq_some_iff.1 h
 have e : (W.setCell ⟨b,j,none⟩ v).heap = W.heap.modify b (fun o => match o with | .cells c elem frozen => .cells (c.setIfInBounds j v) elem frozen | o => o) := rfl
 rw [e,Array.getElem?_modify,h]
 simp [Array.setIfInBounds,hj]
theorem four_set {W : World} {b : Nat} {c0 c1 c2 c3 : Value} {t : TypeId} {fr : Nat × Nat} (h : W.heap[b]? = some (.cells #[c0,c1,c2,c3] t fr)) (v0 v1 v2 v3 : Value) :
  ((((W.setCell ⟨b,0,none⟩ v0).setCell ⟨b,1,none⟩ v1).setCell ⟨b,2,none⟩ v2).setCell ⟨b,3,none⟩ v3).heap[b]? = some (.cells #[v0,v1,v2,v3] t fr) :=
 set_block (set_block (set_block (set_block h 0 v0 (by simp)) 1 v1 (by simp)) 2 v2 (by simp)) 3 v3 (by simp)
end Go.Proofs.Ytfogmdnkpkofiaa
end

section
namespace Go.Proofs.Ytfogmdnkpkofiaa
open Go.RowKit
def bitOf (n k : Nat) : Int := ((n / 2 ^ (7 - k) % 2 : Nat) : Int)
def bits8 (n : Nat) : List Int := [bitOf n 0,bitOf n 1,bitOf n 2,bitOf n 3,bitOf n 4,bitOf n 5,bitOf n 6,bitOf n 7]
theorem bitOf_bd (n k : Nat) : 0 <= bitOf n k ∧ bitOf n k <= 1 := by unfold bitOf; omega
theorem bits8_at (n k : Nat) (h : k < 8) : (bits8 n).getD k 0 = bitOf n k := by
 match k,h with
 | 0,_ | 1,_ | 2,_ | 3,_ | 4,_ | 5,_ | 6,_ | 7,_ => rfl
def bitsL (l : List UInt8) : List Int := l.flatMap fun b => bits8 b.toNat
theorem bitsL_length (l : List UInt8) : (bitsL l).length = 8 * l.length := by
 induction l with
 | nil => rfl
 | cons b l ih => simp only [bitsL,List.flatMap_cons,List.length_append] at ih ⊢; rw [ih]; simp [bits8]; omega
theorem bitsL_snoc (l : List UInt8) (b : UInt8) : bitsL (l ++ [b]) = bitsL l ++ bits8 b.toNat := by simp [bitsL,List.flatMap_append]
theorem take_snocB (s : ByteArray) (k : Nat) (h : k < s.size) : s.data.toList.take (k + 1) = s.data.toList.take k ++ [s[k]] := by
 rw [List.take_succ_eq_append_getElem (by simpa using h)]; rfl
theorem shr_rem (n p : Nat) (hp : p < 8) : wrap64 (((n : Int) / 2 ^ p).tmod 2) = bitOf n (7 - p) := by
 unfold bitOf
 rw [show 7 - (7 - p) = p by omega]
 have hq : ((n : Int) / 2 ^ p) = ((n / 2 ^ p : Nat) : Int) := by simp
 rw [hq]
 generalize n / 2 ^ p = q
 rw [Int.tmod_eq_emod_of_nonneg (by omega)]
 unfold wrap64
 omega
theorem bits8_next (n p : Nat) (hp : p < 8) : (bits8 n).take (8 - p) = (bits8 n).take (8 - (p + 1)) ++ [bitOf n (7 - p)] := by
 have h := take_snoc (bits8 n) (7 - p) (by simp [bits8]; omega)
 rw [bits8_at n (7 - p) (by omega)] at h
 rw [show 8 - p = 7 - p + 1 by omega,h,show 8 - (p + 1) = 7 - p by omega]
end Go.Proofs.Ytfogmdnkpkofiaa
end

section
namespace Go.Proofs.Ytfogmdnkpkofiaa
open Go.RowKit
theorem i64_xor_nat (a b : Nat) (ha : a < 4294967296) (hb : b < 4294967296) : bits .xor .i64 (a : Int) (b : Int) = ((a ^^^ b : Nat) : Int) := by
 have hx : a ^^^ b < 2 ^ 32 := Nat.xor_lt_two_pow (by omega) (by omega)
 show IntKind.i64.wrap ((BitVec.ofInt 64 (a : Int) ^^^ BitVec.ofInt 64 (b : Int)).toNat : Int) = _
 rw [BitVec.toNat_xor,ofInt_u64 a (by omega),ofInt_u64 b (by omega)]
 simp [IntKind.wrap,IntKind.bits,IntKind.signed]
 omega
end Go.Proofs.Ytfogmdnkpkofiaa
end

section
namespace Go.Proofs.Ytfogmdnkpkofiaa
namespace Crc
def stp (r b : Nat) : Nat := if 65536 <= 2 * r + b then (2 * r + b) ^^^ 116839 else 2 * r + b
def run (r : Nat) (l : List Nat) : Nat := l.foldl stp r
def bitL (l : List Nat) : Prop := ∀ b ∈ l,b < 2
theorem bitL_cons {b : Nat} {l : List Nat} (h : bitL (b :: l)) : b < 2 ∧ bitL l := ⟨h b (List.mem_cons_self ..),fun c hc => h c (List.mem_cons_of_mem _ hc)⟩
theorem bitL_append {a b : List Nat} (ha : bitL a) (hb : bitL b) : bitL (a ++ b) := fun c hc => (List.mem_append.1 hc).elim (ha c) (hb c)
theorem bitL_noughts (n : Nat) : bitL (List.replicate n 0) := fun b h => by rw [(List.mem_replicate.1 h).2]; omega
theorem over_xor {u : Nat} (h : u < 65536) : (65536 + u) ^^^ 116839 = u ^^^ 51303 := by
 have hm := @Nat.xor_mod_two_pow (65536 + u) 116839 16
 have hd := @Nat.shiftRight_xor_distrib 16 (65536 + u) 116839
 simp only [Nat.shiftRight_eq_div_pow] at hd
 have e1 : (65536 + u) % 2 ^ 16 = u := by omega
 have e2 : (65536 + u) / 2 ^ 16 = 1 := by omega
 rw [e1] at hm
 rw [e2] at hd
 have hd' : ((65536 + u) ^^^ 116839) / 2 ^ 16 = 0 := hd
 have hm' : ((65536 + u) ^^^ 116839) % 2 ^ 16 = u ^^^ 51303 := hm
 omega
theorem xor16 {a b : Nat} (ha : a < 65536) (hb : b < 65536) : a ^^^ b < 65536 := Nat.xor_lt_two_pow (n := 16) ha hb
theorem stp_form {r b : Nat} (hr : r < 65536) (hb : b < 2) : stp r b = (2 * r + b) % 2 ^ 16 ^^^ (r >>> 15) * 51303 := by
 have h15 : r >>> 15 = r / 32768 := by rw [Nat.shiftRight_eq_div_pow]
 rw [h15]
 unfold stp
 by_cases h : 65536 <= 2 * r + b
 ·rw [if_pos h]
  obtain ⟨u,hu⟩ : ∃ u,2 * r + b = 65536 + u := ⟨2 * r + b - 65536,by omega⟩
  rw [hu,over_xor (by omega),show r / 32768 = 1 by omega,show (65536 + u) % 2 ^ 16 = u by omega]
 ·rw [if_neg h,show r / 32768 = 0 by omega,Nat.zero_mul,Nat.xor_zero,Nat.mod_eq_of_lt (by omega)]
theorem stp_lt {r b : Nat} (hr : r < 65536) (hb : b < 2) : stp r b < 65536 := by
 rw [stp_form hr hb]
 have h15 : r >>> 15 < 2 := by rw [Nat.shiftRight_eq_div_pow]; omega
 refine xor16 (Nat.mod_lt _ (Nat.two_pow_pos 16)) ?_
 have : r >>> 15 * 51303 <= 1 * 51303 := Nat.mul_le_mul_right _ (by omega)
 omega
theorem run_lt : ∀ (l : List Nat) (r : Nat),r < 65536 -> bitL l -> run r l < 65536
 | [],_,h,_ => h
 | b :: l,r,h,hl => run_lt l (stp r b) (stp_lt h (bitL_cons hl).1) (bitL_cons hl).2
theorem run_append (a b : List Nat) (r : Nat) : run r (a ++ b) = run (run r a) b := by simp [run,List.foldl_append]
def crc (l : List Nat) : Nat := run 0 (l ++ List.replicate 16 0)
theorem crc_lt {l : List Nat} (h : bitL l) : crc l < 65536 := run_lt _ 0 (by omega) (bitL_append h (bitL_noughts _))
end Crc
end Go.Proofs.Ytfogmdnkpkofiaa
end

section
namespace Go.Proofs.Ytfogmdnkpkofiaa
namespace Ham
def bitN (x i : Nat) : Nat := x / 2 ^ i % 2
theorem bitN_lt (x i : Nat) : bitN x i < 2 := Nat.mod_lt _ (by omega)
def place (k : Nat) : Nat := [3,5,6,7,9,10,11,12].getD k 0
def oddTo (x : Nat) : Nat -> Nat
 | 0 => 0
 | k + 1 => if bitN x k = 1 then oddTo x k ^^^ k else oddTo x k
def odd (x : Nat) : Nat := oddTo x 13
def wtTo (x : Nat) : Nat -> Nat
 | 0 => 0
 | k + 1 => wtTo x k + bitN x k
def wt (x : Nat) : Nat := wtTo x 13
def dataTo (b : Nat) : Nat -> Nat
 | 0 => 0
 | k + 1 => dataTo b k ||| bitN b k * 2 ^ place k
def data (b : Nat) : Nat := dataTo b 8
def evenTo (b : Nat) : Nat -> Nat
 | 0 => data b
 | j + 1 => if bitN (odd (data b)) j = 1 then evenTo b j ||| 2 ^ 2 ^ j else evenTo b j
def spread (b : Nat) : Nat := evenTo b 4 ||| wt (evenTo b 4) % 2
def byteTo (x : Nat) : Nat -> Nat
 | 0 => 0
 | k + 1 => byteTo x k ||| bitN x (place k) * 2 ^ k
def byteOf (x : Nat) : Nat := byteTo x 8
theorem oddTo_lt (x : Nat) : ∀ k,k <= 16 -> oddTo x k < 16
 | 0,_ => by simp [oddTo]
 | k + 1,h => by
  have ih := oddTo_lt x k (by omega)
  show (if bitN x k = 1 then oddTo x k ^^^ k else oddTo x k) < 16
  split
  ·exact Nat.xor_lt_two_pow (n := 4) ih (by omega)
  ·exact ih
theorem odd_lt (x : Nat) : odd x < 16 := oddTo_lt x 13 (by omega)
theorem wtTo_le (x : Nat) : ∀ k,wtTo x k <= k
 | 0 => Nat.le_refl _
 | k + 1 => by
  have ih := wtTo_le x k
  have := bitN_lt x k
  show wtTo x k + bitN x k <= k + 1
  omega
theorem wt_le (x : Nat) : wt x <= 13 := wtTo_le x 13
theorem place_lt (k : Nat) : place k < 13 := by
 unfold place
 rcases Nat.lt_or_ge k 8 with h | h
 ·match k,h with
  | 0,_ | 1,_ | 2,_ | 3,_ | 4,_ | 5,_ | 6,_ | 7,_ => decide
 ·rw [List.getD_eq_getElem?_getD,List.getElem?_eq_none (by simpa using h)]; decide
theorem bit_pow_lt {d q n : Nat} (hd : d < 2) (hq : q < n) : d * 2 ^ q < 2 ^ n := by
 have h1 : 2 ^ q < 2 ^ n := Nat.pow_lt_pow_right (by omega) hq
 have h2 : d * 2 ^ q <= 1 * 2 ^ q := Nat.mul_le_mul_right _ (by omega)
 omega
theorem dataTo_lt (b : Nat) : ∀ k,dataTo b k < 8192
 | 0 => by simp [dataTo]
 | k + 1 => Nat.or_lt_two_pow (n := 13) (dataTo_lt b k) (bit_pow_lt (bitN_lt b k) (place_lt k))
theorem data_lt (b : Nat) : data b < 8192 := dataTo_lt b 8
theorem evenTo_lt (b : Nat) : ∀ j,j <= 4 -> evenTo b j < 8192
 | 0,_ => data_lt b
 | j + 1,h => by
  have ih := evenTo_lt b j (by omega)
  show (if bitN (odd (data b)) j = 1 then evenTo b j ||| 2 ^ 2 ^ j else evenTo b j) < 8192
  split
  ·refine Nat.or_lt_two_pow (n := 13) ih ?_
   rcases (show j = 0 ∨ j = 1 ∨ j = 2 ∨ j = 3 by omega) with rfl | rfl | rfl | rfl <;> decide
  ·exact ih
def lin : List Nat -> Nat -> Nat
 | [],_ => 0
 | c :: cs,x => (if x % 2 = 1 then c else 0) ^^^ lin cs (x / 2)
def gens : List Nat := [spread 1,spread 2,spread 4,spread 8,spread 16,spread 32,spread 64,spread 128]
theorem spread_all : ∀ b : Fin 256,spread b.val = lin gens b.val ∧ spread b.val < 8192 ∧ odd (spread b.val) = 0 ∧ wt (spread b.val) % 2 = 0 ∧ byteOf (spread b.val) = b.val ∧ (b.val = 0 ∨ 4 <= wt (spread b.val)) := by decide +kernel
theorem spread_lt {b : Nat} (h : b < 256) : spread b < 8192 := (spread_all ⟨b,h⟩).2.1
def healed (x : Nat) : Int × Int :=
 if wt x % 2 = 1 ∧ odd x <= 12 then ((byteOf (x ^^^ 2 ^ odd x) : Int),1) else if wt x % 2 = 0 ∧ odd x = 0 then ((byteOf x : Int),0) else (-1,2)
end Ham
end Go.Proofs.Ytfogmdnkpkofiaa
end

section
namespace Go.Proofs.Ytfogmdnkpkofiaa
namespace Wv
def cnt (n d r : Nat) : Nat := (n - r + (d - 1)) / d
def row (d r j : Nat) : List Nat := (List.range j).map fun t => r + d * t
def orderTo (n d R : Nat) : List Nat := (List.range R).flatMap fun r => row d r (cnt n d r)
def order (n d : Nat) : List Nat := orderTo n d d
def st (n d R : Nat) : Nat := (orderTo n d R).length
theorem row_succ (d r j : Nat) : row d r (j + 1) = row d r j ++ [r + d * j] := by simp [row,List.range_succ]
theorem row_length (d r j : Nat) : (row d r j).length = j := by simp [row]
theorem orderTo_succ (n d R : Nat) : orderTo n d (R + 1) = orderTo n d R ++ row d R (cnt n d R) := by simp [orderTo,List.range_succ,List.flatMap_append]
theorem st_succ (n d R : Nat) : st n d (R + 1) = st n d R + cnt n d R := by simp [st,orderTo_succ,row_length]
theorem st_mono (n d : Nat) {a b : Nat} (h : a <= b) : st n d a <= st n d b := by
 induction b with
 | zero => obtain rfl : a = 0 := by omega
           exact Nat.le_refl _
 | succ b ih =>
  rcases Nat.lt_or_ge a (b + 1) with h' | h'
  ·have := ih (by omega)
   rw [st_succ]; omega
  ·obtain rfl : a = b + 1 := by omega
   exact Nat.le_refl _
theorem cnt_lt {n d r t : Nat} (hd : 0 < d) : t < cnt n d r ↔ r + d * t < n := by
 unfold cnt
 rw [Nat.lt_iff_add_one_le,Nat.le_div_iff_mul_le hd,Nat.add_mul,Nat.one_mul,Nat.mul_comm t d]
 generalize d * t = q
 omega
theorem mem_row {d r j x : Nat} : x ∈ row d r j ↔ ∃ t,t < j ∧ x = r + d * t := by
 simp only [row,List.mem_map,List.mem_range]
 constructor
 ·rintro ⟨t,h,rfl⟩; exact ⟨t,h,rfl⟩
 ·rintro ⟨t,h,rfl⟩; exact ⟨t,h,rfl⟩
theorem mem_order {n d x : Nat} (hd : 0 < d) : x ∈ order n d ↔ x < n := by
 unfold order orderTo
 simp only [List.mem_flatMap,List.mem_range,mem_row]
 constructor
 ·rintro ⟨r,hr,t,ht,rfl⟩
  exact (cnt_lt hd).1 ht
 ·intro hx
  refine ⟨x % d,Nat.mod_lt _ hd,x / d,(cnt_lt hd).2 ?_,?_⟩ <;> rw [Nat.mod_add_div]
  exact hx
theorem nodup_row {d r j : Nat} (hd : 0 < d) : (row d r j).Nodup := by
 unfold row
 rw [List.nodup_iff_pairwise_ne,List.pairwise_map]
 exact (List.nodup_iff_pairwise_ne.1 List.nodup_range).imp fun {a b} h e => h (Nat.eq_of_mul_eq_mul_left hd (by omega))
theorem nodup_orderTo {n d : Nat} (hd : 0 < d) : ∀ R,R <= d -> (orderTo n d R).Nodup
 | 0,_ => by simp [orderTo]
 | R + 1,h => by
  rw [orderTo_succ,List.nodup_append]
  refine ⟨nodup_orderTo hd R (by omega),nodup_row hd,fun a ha b hb e => ?_⟩
  subst e
  unfold orderTo at ha
  simp only [List.mem_flatMap,List.mem_range,mem_row] at ha
  obtain ⟨r,hr,t,_,rfl⟩ := ha
  obtain ⟨u,_,e⟩ := mem_row.1 hb
  have h1 : (r + d * t) % d = r := by rw [Nat.add_mul_mod_self_left,Nat.mod_eq_of_lt (by omega)]
  have h2 : (R + d * u) % d = R := by rw [Nat.add_mul_mod_self_left,Nat.mod_eq_of_lt (by omega)]
  rw [e,h2] at h1
  omega
theorem nodup_order {n d : Nat} (hd : 0 < d) : (order n d).Nodup := nodup_orderTo hd d (Nat.le_refl _)
theorem order_perm {n d : Nat} (hd : 0 < d) : (order n d).Perm (List.range n) :=
 (List.perm_ext_iff_of_nodup (nodup_order hd) List.nodup_range).2 fun x => by rw [mem_order hd,List.mem_range]
theorem order_length {n d : Nat} (hd : 0 < d) : (order n d).length = n := by rw [(order_perm hd).length_eq,List.length_range]
theorem orderTo_at {n d r t : Nat} (ht : t < cnt n d r) : ∀ R,r < R -> (orderTo n d R)[st n d r + t]? = some (r + d * t)
 | 0,h => by omega
 | R + 1,h => by
  rw [orderTo_succ]
  rcases Nat.lt_or_ge r R with h' | h'
  ·have h1 : st n d (r + 1) <= st n d R := st_mono n d (by omega)
   rw [st_succ] at h1
   rw [List.getElem?_append_left (by show _ < st n d R; omega)]
   exact orderTo_at ht R h'
  ·obtain rfl : r = R := by omega
   rw [List.getElem?_append_right (by show st n d r <= _; omega),show st n d r + t - (orderTo n d r).length = t by show st n d r + t - st n d r = t; omega]
   unfold row
   rw [List.getElem?_map,List.getElem?_range ht]
   rfl
theorem orderTo_pos {n d k : Nat} : ∀ R,k < st n d R -> ∃ r t,r < R ∧ t < cnt n d r ∧ k = st n d r + t
 | 0,h => by simp [st,orderTo] at h
 | R + 1,h => by
  rcases Nat.lt_or_ge k (st n d R) with h' | h'
  ·obtain ⟨r,t,h1,h2,h3⟩ := orderTo_pos R h'
   exact ⟨r,t,by omega,h2,h3⟩
  ·rw [st_succ] at h
   exact ⟨R,k - st n d R,by omega,by omega,by omega⟩
def num (n d k : Nat) : Nat := (order n d).getD k 0
theorem num_pos {n d k : Nat} (hd : 0 < d) (hk : k < n) : ∃ r t,r < d ∧ t < cnt n d r ∧ k = st n d r + t ∧ num n d k = r + d * t := by
 have hk' : k < st n d d := by show k < (order n d).length; rw [order_length hd]; exact hk
 obtain ⟨r,t,h1,h2,rfl⟩ := orderTo_pos d hk'
 refine ⟨r,t,h1,h2,rfl,?_⟩
 unfold num order
 rw [List.getD_eq_getElem?_getD,orderTo_at h2 d h1]
 rfl
theorem num_lt {n d k : Nat} (hd : 0 < d) (hk : k < n) : num n d k < n := by
 obtain ⟨r,t,_,h2,_,h4⟩ := num_pos hd hk
 rw [h4]; exact (cnt_lt hd).1 h2
def pos (n d x : Nat) : Nat := (order n d).idxOf x
def wovenL (l : List UInt8) (d : Nat) : List UInt8 := (List.range l.length).map fun k => l.getD (num l.length d k) 0
def unwovenL (l : List UInt8) (d : Nat) : List UInt8 := (List.range l.length).map fun x => l.getD (pos l.length d x) 0
theorem wovenL_length (l : List UInt8) (d : Nat) : (wovenL l d).length = l.length := by simp [wovenL]
theorem wovenL_at (l : List UInt8) (d k : Nat) (hk : k < l.length) : (wovenL l d).getD k 0 = l.getD (num l.length d k) 0 := by
 unfold wovenL
 rw [List.getD_eq_getElem?_getD,List.getElem?_map,List.getElem?_range hk]
 rfl
end Wv
end Go.Proofs.Ytfogmdnkpkofiaa
end

