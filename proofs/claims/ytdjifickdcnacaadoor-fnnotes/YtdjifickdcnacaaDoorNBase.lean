/- Several texts in one: Base, ResCell, BitsL, Xor64, CheckMath, FieldMath, HamMath, WeaveMath, MarkCell, MarkKit, BitsMath. -/
import Derived.WalkKit
import Derived.WalkSpells
import Derived.WalkLawsBesides
import Derived.WalkSmall
import Derived.Below
import Derived.Deep.OwnRows
import Derived.Laws.Rows
import Derived.Laws.BitsAllLaws
section
namespace Go.Proofs.YtdjifickdcnacaaDoor
open Go.RowKit
theorem hide {p : Prop} (h : p) : Hid p := h
structure Aside (lo hi : Nat) (w w' : World) : Prop where
 os : w'.os = w.os
 tape : w'.tape = w.tape
 output : w'.output = w.output
 size : w.heap.size <= w'.heap.size
 block : ∀ k,k < w.heap.size -> k < lo ∨ hi <= k -> w'.heap[k]? = w.heap[k]?
theorem Aside.refl (lo hi : Nat) (w : World) : Aside lo hi w w := ⟨rfl,rfl,rfl,Nat.le_refl _,fun _ _ _ => rfl⟩
theorem Aside.trans {lo hi : Nat} {a b c : World} (h : Aside lo hi a b) (k : Aside lo hi b c) : Aside lo hi a c :=
 ⟨k.os.trans h.os,k.tape.trans h.tape,k.output.trans h.output,Nat.le_trans h.size k.size,fun i hi h' => (k.block i (Nat.lt_of_lt_of_le hi h.size) h').trans (h.block i hi h')⟩
theorem Aside.setCell {lo hi : Nat} {a w : World} (h : Aside lo hi a w) {p : Addr} (h1 : lo <= p.block) (h2 : p.block < hi) (u : Value) : Aside lo hi a (w.setCell p u) :=
 h.trans ⟨rfl,rfl,rfl,by rw [Go.Deep.nblk_setCell]; exact Nat.le_refl _,fun k _ hk => Go.Deep.blk_setCell_other _ _ _ _ (by omega)⟩
theorem Aside.below {lo hi : Nat} {w w' : World} (h : Aside lo hi w w') {B : Nat} (hB : B <= lo) (hw : B <= w.heap.size) : Below B w w' :=
 ⟨h.os,h.tape,h.output,h.size,fun k hk => h.block k (by omega) (.inl (by omega))⟩
theorem below_here {w w' w'' : World} (h : Below w.heap.size w w') (k : Below w'.heap.size w' w'') : Below w.heap.size w w'' := h.trans (k.mono h.size)
def Reads (lo hi : Nat) (w : World) (a : Option Addr) (n : Nat) (f : Nat -> Value) : Prop :=
 hi <= w.heap.size ∧ (0 < n -> ∃ b off,a = some ⟨b,off,none⟩ ∧ lo <= b ∧ b < hi ∧ ∀ i,i < n -> w.cell? ⟨b,off + i,none⟩ = some (f i))
def Owned (lo hi : Nat) (w : World) (a : Option Addr) (n : Nat) (f : Nat -> Value) : Prop :=
 hi <= w.heap.size ∧ (0 < n -> ∃ b off,a = some ⟨b,off,none⟩ ∧ lo <= b ∧ b < hi ∧ ∀ i,i < n -> w.cell? ⟨b,off + i,none⟩ = some (f i) ∧ w.frozen? ⟨b,off + i,none⟩ = false)
section
variable {lo hi : Nat} {w w' : World} {a : Option Addr} {n : Nat} {f g : Nat -> Value}
theorem Owned.reads (h : Owned lo hi w a n f) : Reads lo hi w a n f :=
 ⟨h.1,fun hn => by obtain ⟨b,off,h1,h2,h3,h4⟩ := h.2 hn; exact ⟨b,off,h1,h2,h3,fun i hi => (h4 i hi).1⟩⟩
theorem Reads.congr (h : Reads lo hi w a n f) (e : ∀ i,i < n -> f i = g i) : Reads lo hi w a n g :=
 ⟨h.1,fun hn => by obtain ⟨b,off,h1,h2,h3,h4⟩ := h.2 hn; exact ⟨b,off,h1,h2,h3,fun i hi => by rw [h4 i hi,e i hi]⟩⟩
theorem Owned.congr (h : Owned lo hi w a n f) (e : ∀ i,i < n -> f i = g i) : Owned lo hi w a n g :=
 ⟨h.1,fun hn => by obtain ⟨b,off,h1,h2,h3,h4⟩ := h.2 hn; exact ⟨b,off,h1,h2,h3,fun i hi => by rw [(h4 i hi).1,e i hi]; exact ⟨rfl,(h4 i hi).2⟩⟩⟩
theorem Reads.of (h : Reads lo hi w a n f) (hs : w.heap.size <= w'.heap.size) (hb : ∀ k,lo <= k -> k < hi -> w'.heap[k]? = w.heap[k]?) : Reads lo hi w' a n f :=
 ⟨Nat.le_trans h.1 hs,fun hn => by
  obtain ⟨b,off,h1,h2,h3,h4⟩ := h.2 hn
  exact ⟨b,off,h1,h2,h3,fun i hi => (World.cell?_of_block (w := w) (a := ⟨b,off + i,none⟩) (hb b h2 h3)).trans (h4 i hi)⟩⟩
theorem Owned.of (h : Owned lo hi w a n f) (hs : w.heap.size <= w'.heap.size) (hb : ∀ k,lo <= k -> k < hi -> w'.heap[k]? = w.heap[k]?) : Owned lo hi w' a n f :=
 ⟨Nat.le_trans h.1 hs,fun hn => by
  obtain ⟨b,off,h1,h2,h3,h4⟩ := h.2 hn
  exact ⟨b,off,h1,h2,h3,fun i hi => ⟨(World.cell?_of_block (w := w) (a := ⟨b,off + i,none⟩) (hb b h2 h3)).trans (h4 i hi).1,(World.frozen?_of_block (w := w) (a := ⟨b,off + i,none⟩) (hb b h2 h3)).trans (h4 i hi).2⟩⟩⟩
theorem Reads.later (h : Reads lo hi w a n f) {B : Nat} (hb : Below B w w') (hB : hi <= B) : Reads lo hi w' a n f := h.of hb.size fun k _ hk => hb.block k (by omega)
theorem Owned.later (h : Owned lo hi w a n f) {B : Nat} (hb : Below B w w') (hB : hi <= B) : Owned lo hi w' a n f := h.of hb.size fun k _ hk => hb.block k (by omega)
theorem Reads.aside (h : Reads lo hi w a n f) {l r : Nat} (hb : Aside l r w w') (hB : hi <= l ∨ r <= lo) : Reads lo hi w' a n f :=
 h.of hb.size fun k h1 h2 => hb.block k (by have := h.1; omega) (by omega)
theorem Owned.aside (h : Owned lo hi w a n f) {l r : Nat} (hb : Aside l r w w') (hB : hi <= l ∨ r <= lo) : Owned lo hi w' a n f :=
 h.of hb.size fun k h1 h2 => hb.block k (by have := h.1; omega) (by omega)
theorem Reads.drop {b off : Nat} (h : Reads lo hi w (some ⟨b,off,none⟩) n f) (k : Nat) : Reads lo hi w (some ⟨b,off + k,none⟩) (n - k) (fun i => f (k + i)) :=
 ⟨h.1,fun hn => by
  obtain ⟨b',off',h1,h2,h3,h4⟩ := h.2 (by omega)
  simp only [Option.some.injEq,Addr.mk.injEq,and_true] at h1
  obtain ⟨rfl,rfl⟩ := h1
  exact ⟨b,off + k,rfl,h2,h3,fun i hi => by rw [Nat.add_assoc]; exact h4 (k + i) (by omega)⟩⟩
theorem Owned.set {b off : Nat} (h : Owned lo hi w (some ⟨b,off,none⟩) n f) {i : Nat} (hi' : i < n) (v : Value) :
  Owned lo hi (w.setCell ⟨b,off + i,none⟩ v) (some ⟨b,off,none⟩) n (fun j => if j = i then v else f j) :=
 ⟨by rw [Go.Deep.nblk_setCell]; exact h.1,fun hn => by
  obtain ⟨b',off',h1,h2,h3,h4⟩ := h.2 hn
  simp only [Option.some.injEq,Addr.mk.injEq,and_true] at h1
  obtain ⟨rfl,rfl⟩ := h1
  refine ⟨b,off,rfl,h2,h3,fun j hj => ⟨?_,by rw [World.frozen?_setCell]; exact (h4 j hj).2⟩⟩
  by_cases e : j = i
  ·subst e
   simp only [if_true]
   exact World.cell?_setCell_same _ _ _ (h4 j hj).1
  ·simp only [if_neg e]
   rw [World.cell?_setCell_other _ _ _ _ (by intro e'; simp only [Addr.mk.injEq] at e'; omega)]
   exact (h4 j hj).1⟩
theorem owned_of_row {b t : Nat} (h : w.rowIs b t n f) (h1 : lo <= b) (h2 : b < hi) (h3 : hi <= w.heap.size) : Owned lo hi w (some ⟨b,0,none⟩) n f :=
 ⟨h3,fun _ => ⟨b,0,rfl,h1,h2,fun i hi => ⟨by simpa using h.cell hi,h.frozen _⟩⟩⟩
end
theorem Owned.at0 {lo hi : Nat} {w : World} {b n : Nat} {f : Nat -> Value} (h : Owned lo hi w (some ⟨b,0,none⟩) n f) {i : Nat} (hi' : i < n) : w.cell? ⟨b,i,none⟩ = some (f i) ∧ w.frozen? ⟨b,i,none⟩ = false ∧ lo <= b ∧ b < hi := by
 obtain ⟨b',off',h1,h2,h3,h4⟩ := h.2 (by omega)
 simp only [Option.some.injEq,Addr.mk.injEq,and_true] at h1
 obtain ⟨rfl,rfl⟩ := h1
 have := h4 i hi'
 simp only [Nat.zero_add] at this
 exact ⟨this.1,this.2,h2,h3⟩
theorem Owned.set0 {lo hi : Nat} {w : World} {b n : Nat} {f : Nat -> Value} (h : Owned lo hi w (some ⟨b,0,none⟩) n f) {i : Nat} (hi' : i < n) (v : Value) :
  Owned lo hi (w.setCell ⟨b,i,none⟩ v) (some ⟨b,0,none⟩) n (fun j => if j = i then v else f j) := by
 have := h.set hi' v
 simpa using this
theorem Owned.drew {lo hi : Nat} {w : World} {a : Option Addr} {n : Nat} {f : Nat -> Value} (h : Owned lo hi w a n f) : Owned lo hi w.drew a n f := h
def cellI (xs : List Int) (i : Nat) : Value := .int .i64 (xs.getD i 0)
def Ints (lo hi : Nat) (w : World) (a : Option Addr) (n : Nat) (xs : List Int) : Prop := xs.length = n ∧ Reads lo hi w a n (cellI xs)
def OwnInts (lo hi : Nat) (w : World) (a : Option Addr) (n : Nat) (xs : List Int) : Prop := xs.length = n ∧ Owned lo hi w a n (cellI xs)
section
variable {lo hi : Nat} {w w' : World} {a : Option Addr} {n : Nat} {xs : List Int}
theorem OwnInts.ints (h : OwnInts lo hi w a n xs) : Ints lo hi w a n xs := ⟨h.1,h.2.reads⟩
theorem Ints.later (h : Ints lo hi w a n xs) {B : Nat} (hb : Below B w w') (hB : hi <= B) : Ints lo hi w' a n xs := ⟨h.1,h.2.later hb hB⟩
theorem OwnInts.later (h : OwnInts lo hi w a n xs) {B : Nat} (hb : Below B w w') (hB : hi <= B) : OwnInts lo hi w' a n xs := ⟨h.1,h.2.later hb hB⟩
theorem Ints.aside (h : Ints lo hi w a n xs) {l r : Nat} (hb : Aside l r w w') (hB : hi <= l ∨ r <= lo) : Ints lo hi w' a n xs := ⟨h.1,h.2.aside hb hB⟩
theorem OwnInts.aside (h : OwnInts lo hi w a n xs) {l r : Nat} (hb : Aside l r w w') (hB : hi <= l ∨ r <= lo) : OwnInts lo hi w' a n xs := ⟨h.1,h.2.aside hb hB⟩
end
theorem own_made0 (w : World) (t : TypeId) : (w.alloc (.cells #[] t)).ownsRow w.heap.size t 1 (.slice (some ⟨w.heap.size,0,none⟩) 0 0) 0 [] := by
 have hb : (w.alloc (.cells #[] t)).heap[w.heap.size]? = some (.cells #[] t (0,0)) := by
  show (w.heap.push _)[w.heap.size]? = _
  simp
 exact ⟨rfl,.inr ⟨w.heap.size,0,#[],rfl,Nat.le_refl _,hb,Nat.le_refl _,Nat.zero_le _,rfl,rfl⟩⟩
theorem owned_of_own {w : World} {base e n : Nat} {v : Value} {xs : List Value} (h : w.ownsRow base e 1 v n xs) :
  ∃ a cap,v = .slice a n cap ∧ n <= cap ∧ xs.length = n ∧ (0 < n -> ∃ g,a = some ⟨g,0,none⟩) ∧ Owned base w.heap.size w a n (fun i => xs.getD i (.int .i64 0)) := by
 obtain ⟨hlen,h⟩ := h
 rcases h with ⟨rfl,rfl⟩ | ⟨g,cap,cur,rfl,hg1,hg2,hn,_,hcs,htake⟩
 ·exact ⟨none,0,rfl,Nat.le_refl _,by simpa using hlen,fun h => absurd h (Nat.lt_irrefl _),Nat.le_refl _,fun h => absurd h (Nat.lt_irrefl _)⟩
 ·have hlt : g < w.heap.size := (Array.getElem?_eq_some_iff.1 hg2).1
  refine ⟨_,cap,rfl,hn,by simpa using hlen,fun _ => ⟨g,rfl⟩,Nat.le_refl _,fun _ => ⟨g,0,rfl,hg1,hlt,fun i hi => ⟨?_,?_⟩⟩⟩
  ·have h1 : i < cur.size := by omega
   simp only [World.cell?,hg2,Nat.zero_add]
   rw [<- htake,Nat.mul_one,List.getD_eq_getElem?_getD,List.getElem?_take,if_pos hi]
   simp [h1]
  ·simp [World.frozen?,hg2]
theorem map_cell (xs : List Int) (i : Nat) (h : i < xs.length) : (xs.map (Value.int .i64)).getD i (.int .i64 0) = cellI xs i := by
 simp [cellI,List.getD_eq_getElem?_getD,List.getElem?_eq_getElem h]
theorem ret_bool {a b : Bool} (h : a = b) : Ending.returned (.bool a) = .returned (.bool b) := by rw [h]
theorem ret_i64 {a b : Int} (h : a = b) : Ending.returned (.int .i64 a) = .returned (.int .i64 b) := by rw [h]
theorem take_snoc (xs : List Int) (k : Nat) (h : k < xs.length) : xs.take (k + 1) = xs.take k ++ [xs.getD k 0] := by
 rw [List.take_succ_eq_append_getElem h,List.getD_eq_getElem?_getD,List.getElem?_eq_getElem h]; rfl
def inB (x lo hi : Int) : Bool := decide (lo <= x) && decide (x <= hi)
def bit (b : Int) : Bool := b == 0 || b == 1
def bitsOk (xs : List Int) : Bool := decide (xs.length <= 4096) && xs.all bit
end Go.Proofs.YtdjifickdcnacaaDoor
end

section
namespace Go.Proofs.YtdjifickdcnacaaDoor
open Go.RowKit
theorem results_cell {fn : Func} {P : Program} {w : World} {t : Tmp} {ty : TypeId} {tmps : Array Value} {a : Addr} {v : Value} (h : fn.results = #[.cell t ty]) (ht : tmps.getD t undef = .pointer (some a)) (hl : (loadVar ty a).run P w = .ok v w) :
  (results fn tmps).run P w = .ok v w := by
 have ht' : tmps[t]?.getD undef = .pointer (some a) := by simpa using ht
 simp [results,h,ht',asAddr,hl]
theorem results_ct {fn : Func} {P : Program} {w : World} {t u : Tmp} {ty : TypeId} {tmps : Array Value} {a : Addr} {v : Value} (h : fn.results = #[.cell t ty,.tmp u]) (ht : tmps.getD t undef = .pointer (some a)) (hl : (loadVar ty a).run P w = .ok v w) :
  (results fn tmps).run P w = .ok (.tuple #[v,tmps.getD u undef]) w := by
 have ht' : tmps[t]?.getD undef = .pointer (some a) := by simpa using ht
 simp [results,h,ht',asAddr,hl]
theorem heap_new (w : World) (o : Obj) : (w.alloc o).heap[w.heap.size]? = some o := by
 show (w.heap.push _)[w.heap.size]? = _
 simp
theorem heap_at {w : World} {o : Obj} {g : Nat} (h : g = w.heap.size) : (w.alloc o).heap[g]? = some o := by subst h; exact heap_new w o
theorem heap_old {w : World} {o : Obj} {k : Nat} {b : Obj} (h : w.heap[k]? = some b) : (w.alloc o).heap[k]? = some b := by
 have hk : k < w.heap.size := (Array.getElem?_eq_some_iff.1 h).1
 show (w.heap.push _)[k]? = _
 rw [Array.getElem?_push_lt hk]
 rw [Array.getElem?_eq_getElem hk] at h
 exact h
theorem block_on {w w' : World} {b : Nat} {o : Obj} (h : w.heap[b]? = some o) (hb : Below w.heap.size w w') : w'.heap[b]? = some o :=
 (hb.block b (Array.getElem?_eq_some_iff.1 h).1).trans h
theorem four_frozen {W : World} {b : Nat} {cs : Array Value} {t : TypeId} (h : W.heap[b]? = some (.cells cs t (0,0))) (j : Nat) : W.frozen? ⟨b,j,none⟩ = false := by
 simp [World.frozen?,h]
theorem set_block {W : World} {b : Nat} {cs : Array Value} {t : TypeId} {fr : Nat × Nat} (h : W.heap[b]? = some (.cells cs t fr)) (j : Nat) (v : Value) (hj : j < cs.size) : (W.setCell ⟨b,j,none⟩ v).heap[b]? = some (.cells (cs.set j v hj) t fr) := by
 obtain ⟨hb,hg⟩ := Array.getElem?_eq_some_iff.1 h
 have e : (W.setCell ⟨b,j,none⟩ v).heap = W.heap.modify b (fun o => match o with | .cells c elem frozen => .cells (c.setIfInBounds j v) elem frozen | o => o) := rfl
 rw [e,Array.getElem?_modify,h]
 simp [Array.setIfInBounds,hj]
end Go.Proofs.YtdjifickdcnacaaDoor
end

section
namespace Go.Proofs.YtdjifickdcnacaaDoor
open Go.RowKit
def bitOf (n k : Nat) : Int := ((n / 2 ^ (7 - k) % 2 : Nat) : Int)
def bits8 (n : Nat) : List Int := [bitOf n 0,bitOf n 1,bitOf n 2,bitOf n 3,bitOf n 4,bitOf n 5,bitOf n 6,bitOf n 7]
theorem bitOf_bd (n k : Nat) : 0 <= bitOf n k ∧ bitOf n k <= 1 := by unfold bitOf; omega
theorem bits8_at (n k : Nat) (h : k < 8) : (bits8 n).getD k 0 = bitOf n k := by
 match k,h with
 | 0,_ | 1,_ | 2,_ | 3,_ | 4,_ | 5,_ | 6,_ | 7,_ => rfl
def bitsL (l : List UInt8) : List Int := l.flatMap fun b => bits8 b.toNat
theorem bitsL_length (l : List UInt8) : (bitsL l).length = 8 * l.length := by
 induction l with
 | nil => rfl
 | cons b l ih => simp only [bitsL,List.flatMap_cons,List.length_append] at ih ⊢; rw [ih]; simp [bits8]; omega
theorem bitsL_snoc (l : List UInt8) (b : UInt8) : bitsL (l ++ [b]) = bitsL l ++ bits8 b.toNat := by simp [bitsL,List.flatMap_append]
theorem take_snocB (s : ByteArray) (k : Nat) (h : k < s.size) : s.data.toList.take (k + 1) = s.data.toList.take k ++ [s[k]] := by
 rw [List.take_succ_eq_append_getElem (by simpa using h)]; rfl
theorem shr_rem (n p : Nat) (hp : p < 8) : wrap64 (((n : Int) / 2 ^ p).tmod 2) = bitOf n (7 - p) := by
 unfold bitOf
 rw [show 7 - (7 - p) = p by omega]
 have hq : ((n : Int) / 2 ^ p) = ((n / 2 ^ p : Nat) : Int) := by simp
 rw [hq]
 generalize n / 2 ^ p = q
 rw [Int.tmod_eq_emod_of_nonneg (by omega)]
 unfold wrap64
 omega
theorem bits8_next (n p : Nat) (hp : p < 8) : (bits8 n).take (8 - p) = (bits8 n).take (8 - (p + 1)) ++ [bitOf n (7 - p)] := by
 have h := take_snoc (bits8 n) (7 - p) (by simp [bits8]; omega)
 rw [bits8_at n (7 - p) (by omega)] at h
 rw [show 8 - p = 7 - p + 1 by omega,h,show 8 - (p + 1) = 7 - p by omega]
end Go.Proofs.YtdjifickdcnacaaDoor
end

section
namespace Go.Proofs.YtdjifickdcnacaaDoor
open Go.RowKit
theorem i64_xor_nat (a b : Nat) (ha : a < 4294967296) (hb : b < 4294967296) : bits .xor .i64 (a : Int) (b : Int) = ((a ^^^ b : Nat) : Int) := by
 have hx : a ^^^ b < 2 ^ 32 := Nat.xor_lt_two_pow (by omega) (by omega)
 show IntKind.i64.wrap ((BitVec.ofInt 64 (a : Int) ^^^ BitVec.ofInt 64 (b : Int)).toNat : Int) = _
 rw [BitVec.toNat_xor,ofInt_u64 a (by omega),ofInt_u64 b (by omega)]
 simp [IntKind.wrap,IntKind.bits,IntKind.signed]
 omega
end Go.Proofs.YtdjifickdcnacaaDoor
end

section
namespace Go.Proofs.YtdjifickdcnacaaDoor
namespace Crc
def stp (r b : Nat) : Nat := if 65536 <= 2 * r + b then (2 * r + b) ^^^ 116839 else 2 * r + b
def run (r : Nat) (l : List Nat) : Nat := l.foldl stp r
def bitL (l : List Nat) : Prop := ∀ b ∈ l,b < 2
theorem bitL_nil : bitL [] := fun _ h => by cases h
theorem bitL_cons {b : Nat} {l : List Nat} (h : bitL (b :: l)) : b < 2 ∧ bitL l := ⟨h b (List.mem_cons_self ..),fun c hc => h c (List.mem_cons_of_mem _ hc)⟩
theorem bitL_append {a b : List Nat} (ha : bitL a) (hb : bitL b) : bitL (a ++ b) := fun c hc => (List.mem_append.1 hc).elim (ha c) (hb c)
theorem bitL_noughts (n : Nat) : bitL (List.replicate n 0) := fun b h => by rw [(List.mem_replicate.1 h).2]; omega
theorem over_xor {u : Nat} (h : u < 65536) : (65536 + u) ^^^ 116839 = u ^^^ 51303 := by
 have hm := @Nat.xor_mod_two_pow (65536 + u) 116839 16
 have hd := @Nat.shiftRight_xor_distrib 16 (65536 + u) 116839
 simp only [Nat.shiftRight_eq_div_pow] at hd
 have e1 : (65536 + u) % 2 ^ 16 = u := by omega
 have e2 : (65536 + u) / 2 ^ 16 = 1 := by omega
 rw [e1] at hm
 rw [e2] at hd
 have hd' : ((65536 + u) ^^^ 116839) / 2 ^ 16 = 0 := hd
 have hm' : ((65536 + u) ^^^ 116839) % 2 ^ 16 = u ^^^ 51303 := hm
 omega
theorem xor16 {a b : Nat} (ha : a < 65536) (hb : b < 65536) : a ^^^ b < 65536 := Nat.xor_lt_two_pow (n := 16) ha hb
theorem stp_form {r b : Nat} (hr : r < 65536) (hb : b < 2) : stp r b = (2 * r + b) % 2 ^ 16 ^^^ (r >>> 15) * 51303 := by
 have h15 : r >>> 15 = r / 32768 := by rw [Nat.shiftRight_eq_div_pow]
 rw [h15]
 unfold stp
 by_cases h : 65536 <= 2 * r + b
 ·rw [if_pos h]
  obtain ⟨u,hu⟩ : ∃ u,2 * r + b = 65536 + u := ⟨2 * r + b - 65536,by omega⟩
  rw [hu,over_xor (by omega),show r / 32768 = 1 by omega,show (65536 + u) % 2 ^ 16 = u by omega]
 ·rw [if_neg h,show r / 32768 = 0 by omega,Nat.zero_mul,Nat.xor_zero,Nat.mod_eq_of_lt (by omega)]
theorem stp_lt {r b : Nat} (hr : r < 65536) (hb : b < 2) : stp r b < 65536 := by
 rw [stp_form hr hb]
 have h15 : r >>> 15 < 2 := by rw [Nat.shiftRight_eq_div_pow]; omega
 refine xor16 (Nat.mod_lt _ (Nat.two_pow_pos 16)) ?_
 have : r >>> 15 * 51303 <= 1 * 51303 := Nat.mul_le_mul_right _ (by omega)
 omega
theorem xor_bit {p q : Nat} (hp : p < 2) (hq : q < 2) : p ^^^ q < 2 := Nat.xor_lt_two_pow (n := 1) hp hq
theorem mod2_xor (a b : Nat) : (a ^^^ b) % 2 = a % 2 ^^^ b % 2 := by
 have := @Nat.xor_mod_two_pow a b 1
 simpa using this
theorem two_bit_xor {r s b c : Nat} (hb : b < 2) (hc : c < 2) : 2 * (r ^^^ s) + (b ^^^ c) = (2 * r + b) ^^^ (2 * s + c) := by
 have h1 := @Nat.xor_div_two (2 * r + b) (2 * s + c)
 have h2 := mod2_xor (2 * r + b) (2 * s + c)
 rw [show (2 * r + b) / 2 = r by omega,show (2 * s + c) / 2 = s by omega] at h1
 rw [show (2 * r + b) % 2 = b by omega,show (2 * s + c) % 2 = c by omega] at h2
 omega
theorem bit_51303 : ∀ p q : Fin 2,(p.val ^^^ q.val) * 51303 = p.val * 51303 ^^^ q.val * 51303 := by decide
theorem xor4c (a b c d : Nat) : (a ^^^ b) ^^^ (c ^^^ d) = (a ^^^ c) ^^^ (b ^^^ d) := by
 rw [Nat.xor_assoc,Nat.xor_assoc,<- Nat.xor_assoc b c d,Nat.xor_comm b c,Nat.xor_assoc c b d]
theorem stp_xor {r s b c : Nat} (hr : r < 65536) (hs : s < 65536) (hb : b < 2) (hc : c < 2) : stp (r ^^^ s) (b ^^^ c) = stp r b ^^^ stp s c := by
 rw [stp_form hr hb,stp_form hs hc,stp_form (xor16 hr hs) (xor_bit hb hc),two_bit_xor hb hc,Nat.xor_mod_two_pow,Nat.shiftRight_xor_distrib,xor4c]
 have h1 : r >>> 15 < 2 := by rw [Nat.shiftRight_eq_div_pow]; omega
 have h2 : s >>> 15 < 2 := by rw [Nat.shiftRight_eq_div_pow]; omega
 rw [bit_51303 ⟨_,h1⟩ ⟨_,h2⟩]
theorem run_lt : ∀ (l : List Nat) (r : Nat),r < 65536 -> bitL l -> run r l < 65536
 | [],_,h,_ => h
 | b :: l,r,h,hl => run_lt l (stp r b) (stp_lt h (bitL_cons hl).1) (bitL_cons hl).2
theorem run_append (a b : List Nat) (r : Nat) : run r (a ++ b) = run (run r a) b := by simp [run,List.foldl_append]
theorem run_xor : ∀ (l m : List Nat) (r s : Nat),l.length = m.length -> r < 65536 -> s < 65536 -> bitL l -> bitL m ->
  run (r ^^^ s) (List.zipWith (· ^^^ ·) l m) = run r l ^^^ run s m
 | [],[],_,_,_,_,_,_,_ => rfl
 | b :: l,c :: m,r,s,h,hr,hs,hl,hm => by
  have hb := bitL_cons hl
  have hc := bitL_cons hm
  show run (stp (r ^^^ s) (b ^^^ c)) (List.zipWith (· ^^^ ·) l m) = run (stp r b) l ^^^ run (stp s c) m
  rw [stp_xor hr hs hb.1 hc.1]
  exact run_xor l m _ _ (by simpa using h) (stp_lt hr hb.1) (stp_lt hs hc.1) hb.2 hc.2
 | [],_ :: _,_,_,h,_,_,_,_ => by simp at h
 | _ :: _,[],_,_,h,_,_,_,_ => by simp at h
theorem run_noughts : ∀ n : Nat,run 0 (List.replicate n 0) = 0
 | 0 => rfl
 | n + 1 => by
  rw [List.replicate_succ]
  show run (stp 0 0) _ = 0
  exact run_noughts n
theorem stp_pos {r : Nat} (h : r ≠ 0) : stp r 0 ≠ 0 := by
 unfold stp
 by_cases h' : 65536 <= 2 * r + 0
 ·rw [if_pos h']
  intro e
  have := mod2_xor (2 * r + 0) 116839
  rw [e,show (2 * r + 0) % 2 = 0 by omega] at this
  simp at this
 ·rw [if_neg h']; omega
theorem run_pos : ∀ (n r : Nat),r ≠ 0 -> run r (List.replicate n 0) ≠ 0
 | 0,_,h => h
 | n + 1,r,h => by
  rw [List.replicate_succ]
  exact run_pos n (stp r 0) (stp_pos h)
def bitsn : Nat -> Nat -> List Nat
 | 0,_ => []
 | k + 1,m => bitsn k (m / 2) ++ [m % 2]
theorem bitsn_length : ∀ k m : Nat,(bitsn k m).length = k
 | 0,_ => rfl
 | k + 1,m => by simp [bitsn,bitsn_length k]
theorem bitsn_bit : ∀ k m : Nat,bitL (bitsn k m)
 | 0,_ => bitL_nil
 | k + 1,m => bitL_append (bitsn_bit k (m / 2)) (fun b h => by rw [List.mem_singleton.1 h]; omega)
theorem run_bitsn : ∀ k m : Nat,k <= 16 -> m < 2 ^ k -> run 0 (bitsn k m) = m
 | 0,m,_,h => by simp at h; subst h; rfl
 | k + 1,m,hk,h => by
  have h2 : m / 2 < 2 ^ k := by rw [Nat.pow_succ] at h; omega
  have hb : 2 ^ (k + 1) <= 2 ^ 16 := Nat.pow_le_pow_right (by omega) hk
  rw [bitsn,run_append,run_bitsn k (m / 2) (by omega) h2]
  show stp (m / 2) (m % 2) = m
  unfold stp
  rw [if_neg (by omega)]
  omega
theorem bitsn_take : ∀ (k m j : Nat),j <= k -> (bitsn k m).take j = bitsn j (m / 2 ^ (k - j))
 | 0,m,j,h => by
  obtain rfl : j = 0 := by omega
  rfl
 | k + 1,m,j,h => by
  by_cases e : j = k + 1
  ·subst e
   rw [List.take_of_length_le (by rw [bitsn_length]; omega),Nat.sub_self,Nat.pow_zero,Nat.div_one]
  ·rw [bitsn,List.take_append_of_le_length (by rw [bitsn_length]; omega),bitsn_take k (m / 2) j (by omega),Nat.div_div_eq_div_mul,Nat.mul_comm,<- Nat.pow_succ,show (k - j).succ = k + 1 - j by omega]
theorem bitsn_zero : ∀ k : Nat,bitsn k 0 = List.replicate k 0
 | 0 => rfl
 | k + 1 => by rw [bitsn,Nat.zero_div,bitsn_zero k,Nat.zero_mod,List.replicate_succ']
def crc (l : List Nat) : Nat := run 0 (l ++ List.replicate 16 0)
theorem crc_lt {l : List Nat} (h : bitL l) : crc l < 65536 := run_lt _ 0 (by omega) (bitL_append h (bitL_noughts _))
theorem zip_self_nought (l : List Nat) (n : Nat) (h : l.length = n) : List.zipWith (· ^^^ ·) (List.replicate n 0) l = l := by
 subst h
 induction l with
 | nil => rfl
 | cons b l ih => rw [List.length_cons,List.replicate_succ,List.zipWith_cons_cons,ih,Nat.zero_xor]
theorem run_check {l : List Nat} {c : Nat} (h : bitL l) (hc : c < 65536) : run 0 (l ++ bitsn 16 c) = crc l ^^^ c := by
 have hr := run_lt l 0 (by omega) h
 have := run_xor (List.replicate 16 0) (bitsn 16 c) (run 0 l) 0 (by rw [bitsn_length,List.length_replicate]) hr (by omega) (bitL_noughts _) (bitsn_bit _ _)
 rw [zip_self_nought _ 16 (bitsn_length _ _),Nat.xor_zero,run_bitsn 16 c (by omega) hc] at this
 rw [run_append,this,crc,run_append]
def smear (n at' mask : Nat) : List Nat := List.replicate at' 0 ++ ((bitsn 16 mask).take (n - at') ++ List.replicate (n - at' - 16) 0)
theorem smear_length {n p mask : Nat} (h : p <= n) : (smear n p mask).length = n := by
 simp [smear,bitsn_length]; omega
theorem smear_bit (n p mask : Nat) : bitL (smear n p mask) :=
 bitL_append (bitL_noughts _) (bitL_append (fun b h => bitsn_bit 16 mask b (List.mem_of_mem_take h)) (bitL_noughts _))
theorem smear_seen {n p mask : Nat} (hm : mask < 65536) (hs : run 0 (smear n p mask) = 0) : smear n p mask = List.replicate p 0 ++ (List.replicate (min (n - p) 16) 0 ++ List.replicate (n - p - 16) 0) := by
 obtain ⟨j,hj⟩ : ∃ j,j = min (n - p) 16 := ⟨_,rfl⟩
 have ht : (bitsn 16 mask).take (n - p) = bitsn j (mask / 2 ^ (16 - j)) := by
  by_cases h : n - p <= 16
  ·rw [show j = n - p by omega,bitsn_take 16 mask _ h]
  ·rw [List.take_of_length_le (by rw [bitsn_length]; omega),show j = 16 by omega]; simp
 have hlt : mask / 2 ^ (16 - j) < 2 ^ j := by
  rw [Nat.div_lt_iff_lt_mul (Nat.two_pow_pos _),<- Nat.pow_add,show j + (16 - j) = 16 by omega]; exact hm
 unfold smear at hs ⊢
 rw [ht] at hs ⊢
 rw [run_append,run_noughts,run_append,run_bitsn j _ (by omega) hlt] at hs
 by_cases h0 : mask / 2 ^ (16 - j) = 0
 ·rw [h0,bitsn_zero,<- hj]
 ·exact absurd hs (run_pos _ _ h0)
end Crc
end Go.Proofs.YtdjifickdcnacaaDoor
end

section
namespace Go.Proofs.YtdjifickdcnacaaDoor
namespace Field
def dbl (a : Nat) : Nat := if 256 <= 2 * a then 2 * a ^^^ 301 else 2 * a
theorem dbl_lt' : ∀ a : Fin 256,dbl a.val < 256 := by decide +kernel
theorem dbl_lt {a : Nat} (h : a < 256) : dbl a < 256 := dbl_lt' ⟨a,h⟩
theorem dbl_form' : ∀ a : Fin 256,dbl a.val = (2 * a.val) % 2 ^ 8 ^^^ (a.val >>> 7) * 45 := by decide +kernel
theorem dbl_form {a : Nat} (h : a < 256) : dbl a = (2 * a) % 2 ^ 8 ^^^ (a >>> 7) * 45 := dbl_form' ⟨a,h⟩
theorem xor_lt {a b : Nat} (ha : a < 256) (hb : b < 256) : a ^^^ b < 256 := Nat.xor_lt_two_pow (n := 8) ha hb
theorem two_xor (a b : Nat) : 2 * (a ^^^ b) = 2 * a ^^^ 2 * b := by
 have := @Nat.shiftLeft_xor_distrib 1 a b
 simp only [Nat.shiftLeft_eq,Nat.pow_one] at this
 rw [Nat.mul_comm 2,Nat.mul_comm 2,Nat.mul_comm 2]; exact this
theorem xor4 (a b c d : Nat) : (a ^^^ b) ^^^ (c ^^^ d) = (a ^^^ c) ^^^ (b ^^^ d) := by
 rw [Nat.xor_assoc,Nat.xor_assoc,<- Nat.xor_assoc b c d,Nat.xor_comm b c,Nat.xor_assoc c b d]
theorem bit_45 : ∀ p q : Fin 2,(p.val ^^^ q.val) * 45 = p.val * 45 ^^^ q.val * 45 := by decide
theorem dbl_xor {a b : Nat} (ha : a < 256) (hb : b < 256) : dbl (a ^^^ b) = dbl a ^^^ dbl b := by
 rw [dbl_form ha,dbl_form hb,dbl_form (xor_lt ha hb),two_xor,Nat.xor_mod_two_pow,Nat.shiftRight_xor_distrib,xor4]
 have h1 : a >>> 7 < 2 := by rw [Nat.shiftRight_eq_div_pow]; omega
 have h2 : b >>> 7 < 2 := by rw [Nat.shiftRight_eq_div_pow]; omega
 rw [bit_45 ⟨_,h1⟩ ⟨_,h2⟩]
def mulF : Nat -> Nat -> Nat -> Nat
 | 0,_,_ => 0
 | k + 1,a,b => (if b % 2 = 1 then a else 0) ^^^ mulF k (dbl a) (b / 2)
theorem mulF_zero : ∀ (k a : Nat),mulF k a 0 = 0
 | 0,_ => rfl
 | k + 1,a => by simp [mulF,mulF_zero k]
theorem mulF_more : ∀ (k a b : Nat),b < 2 ^ k -> mulF (k + 1) a b = mulF k a b
 | 0,a,b,h => by
  have : b = 0 := by simpa using h
  subst this; simp [mulF]
 | k + 1,a,b,h => by
  show (if b % 2 = 1 then a else 0) ^^^ mulF (k + 1) (dbl a) (b / 2) = (if b % 2 = 1 then a else 0) ^^^ mulF k (dbl a) (b / 2)
  rw [mulF_more k _ _ (by rw [Nat.pow_succ] at h; omega)]
theorem mulF_lt : ∀ (k a b : Nat),a < 256 -> mulF k a b < 256
 | 0,_,_,_ => by simp [mulF]
 | k + 1,a,b,h => by
  have := mulF_lt k (dbl a) (b / 2) (dbl_lt h)
  unfold mulF
  refine xor_lt ?_ this
  split <;> omega
theorem mulF_left : ∀ (k a c b : Nat),a < 256 -> c < 256 -> mulF k (a ^^^ c) b = mulF k a b ^^^ mulF k c b
 | 0,_,_,_,_,_ => by simp [mulF]
 | k + 1,a,c,b,ha,hc => by
  unfold mulF
  rw [dbl_xor ha hc,mulF_left k _ _ _ (dbl_lt ha) (dbl_lt hc),xor4]
  split <;> simp
theorem bit_xor (b d : Nat) : (b ^^^ d) % 2 = b % 2 ^^^ d % 2 := by
 have := @Nat.xor_mod_two_pow b d 1
 simpa using this
theorem mulF_right : ∀ (k a b d : Nat),mulF k a (b ^^^ d) = mulF k a b ^^^ mulF k a d
 | 0,_,_,_ => by simp [mulF]
 | k + 1,a,b,d => by
  unfold mulF
  rw [Nat.xor_div_two,mulF_right k,xor4,bit_xor]
  congr 1
  rcases Nat.mod_two_eq_zero_or_one b with h | h <;> rcases Nat.mod_two_eq_zero_or_one d with h' | h' <;> rw [h,h'] <;> simp
theorem mulF_dbl : ∀ (k a b : Nat),a < 256 -> mulF k (dbl a) b = dbl (mulF k a b)
 | 0,_,_,_ => rfl
 | k + 1,a,b,h => by
  unfold mulF
  rw [mulF_dbl k _ _ (dbl_lt h),dbl_xor (by split <;> omega) (mulF_lt k _ _ (dbl_lt h))]
  congr 1
  split <;> rfl
def mul (a b : Nat) : Nat := mulF 8 a b
theorem mul_lt {a b : Nat} (h : a < 256) : mul a b < 256 := mulF_lt 8 a b h
theorem mul_zero (a : Nat) : mul a 0 = 0 := mulF_zero 8 a
theorem mul_step {a b : Nat} (hb : b < 256) : mul a b = (if b % 2 = 1 then a else 0) ^^^ mul (dbl a) (b / 2) := by
 unfold mul
 rw [mulF_more 7 (dbl a) (b / 2) (by omega)]; rfl
theorem mul_left {a c : Nat} (b : Nat) (ha : a < 256) (hc : c < 256) : mul (a ^^^ c) b = mul a b ^^^ mul c b := mulF_left 8 a c b ha hc
theorem mul_right (a b d : Nat) : mul a (b ^^^ d) = mul a b ^^^ mul a d := mulF_right 8 a b d
theorem mul_dbl {a : Nat} (b : Nat) (h : a < 256) : mul (dbl a) b = dbl (mul a b) := mulF_dbl 8 a b h
theorem mul_half {a b : Nat} (ha : a < 256) (hb : b < 256) : mul a b = dbl (mul a (b / 2)) ^^^ (if b % 2 = 1 then a else 0) := by
 rw [mul_step hb,mul_dbl _ ha,Nat.xor_comm]
theorem mul_45' : ∀ a : Fin 256,mul a.val 45 = mul (dbl a.val) 128 := by decide +kernel
theorem dbl_up' : ∀ b : Fin 128,dbl (b.val + 128) = 2 * b.val ^^^ 45 := by decide +kernel
theorem up_xor' : ∀ b : Fin 128,b.val + 128 = b.val ^^^ 128 := by decide +kernel
theorem mul_two {a b : Nat} (hb : b < 128) : mul a (2 * b) = mul (dbl a) b := by
 rw [mul_step (by omega),if_neg (by omega),Nat.zero_xor]
 congr 1; omega
theorem mul_by_dbl {a b : Nat} (ha : a < 256) (hb : b < 256) : mul a (dbl b) = dbl (mul a b) := by
 rw [<- mul_dbl b ha]
 by_cases h : b < 128
 ·have : dbl b = 2 * b := by unfold dbl; rw [if_neg (by omega)]
  rw [this,mul_two h]
 ·obtain ⟨c,rfl⟩ : ∃ c,b = c + 128 := ⟨b - 128,by omega⟩
  have hc : c < 128 := by omega
  rw [dbl_up' ⟨c,hc⟩,up_xor' ⟨c,hc⟩,mul_right,mul_right,mul_two hc,mul_45' ⟨a,ha⟩]
theorem mul_one' : ∀ a : Fin 256,mul a.val 1 = a.val := by decide +kernel
theorem one_mul' : ∀ a : Fin 256,mul 1 a.val = a.val := by decide +kernel
theorem zero_mul' : ∀ a : Fin 256,mul 0 a.val = 0 := by decide +kernel
theorem mul_one {a : Nat} (h : a < 256) : mul a 1 = a := mul_one' ⟨a,h⟩
theorem one_mul {a : Nat} (h : a < 256) : mul 1 a = a := one_mul' ⟨a,h⟩
theorem zero_mul {a : Nat} (h : a < 256) : mul 0 a = 0 := zero_mul' ⟨a,h⟩
theorem parts' : ∀ a : Fin 256,a.val = dbl (a.val / 2) ^^^ a.val % 2 := by decide +kernel
theorem mul_comm_upto : ∀ (n a b : Nat),a < n -> a < 256 -> b < 256 -> mul a b = mul b a
 | 0,a,b,h,_,_ => absurd h (Nat.not_lt_zero a)
 | n + 1,a,b,h,ha,hb => by
  by_cases h0 : a = 0
  ·subst h0; rw [zero_mul hb,mul_zero]
  have hh : a / 2 < 256 := by omega
  have e := parts' ⟨a,ha⟩
  simp only at e
  have ih := mul_comm_upto n (a / 2) b (by omega) hh hb
  have h2 : mul (a % 2) b = mul b (a % 2) := by
   rcases Nat.mod_two_eq_zero_or_one a with h | h <;> rw [h]
   ·rw [zero_mul hb,mul_zero]
   ·rw [one_mul hb,mul_one hb]
  rw [e,mul_left _ (dbl_lt hh) (by omega),mul_right,mul_dbl _ hh,mul_by_dbl hb hh,ih,h2]
theorem mul_comm {a b : Nat} (ha : a < 256) (hb : b < 256) : mul a b = mul b a := mul_comm_upto (a + 1) a b (by omega) ha hb
theorem mul_assoc_upto : ∀ (n a b c : Nat),c < n -> a < 256 -> b < 256 -> c < 256 -> mul (mul a b) c = mul a (mul b c)
 | 0,_,_,c,h,_,_,_ => absurd h (Nat.not_lt_zero c)
 | n + 1,a,b,c,h,ha,hb,hc => by
  by_cases h0 : c = 0
  ·subst h0; rw [mul_zero,mul_zero,mul_zero]
  have hh : c / 2 < 256 := by omega
  have hm := mul_lt (b := b) ha
  have ih := mul_assoc_upto n a b (c / 2) (by omega) ha hb hh
  rw [mul_half hm hc,mul_half hb hc,ih,mul_right,mul_by_dbl ha (mul_lt hb)]
  congr 1
  split
  ·rfl
  ·rw [mul_zero]
theorem mul_assoc {a b c : Nat} (ha : a < 256) (hb : b < 256) (hc : c < 256) : mul (mul a b) c = mul a (mul b c) := mul_assoc_upto (c + 1) a b c (by omega) ha hb hc
def pow (a : Nat) : Nat -> Nat
 | 0 => 1
 | n + 1 => mul a (pow a n)
theorem pow_lt {a : Nat} (h : a < 256) : ∀ n,pow a n < 256
 | 0 => by simp [pow]
 | n + 1 => mul_lt h
theorem pow_add {a : Nat} (h : a < 256) (m : Nat) : ∀ n,pow a (n + m) = mul (pow a n) (pow a m)
 | 0 => by rw [Nat.zero_add]; exact (one_mul (pow_lt h m)).symm
 | n + 1 => by
  rw [show n + 1 + m = (n + m) + 1 by omega]
  show mul a (pow a (n + m)) = mul (mul a (pow a n)) (pow a m)
  rw [pow_add h m n,mul_assoc h (pow_lt h n) (pow_lt h m)]
def up : Nat -> Nat
 | 0 => 1
 | n + 1 => dbl (up n)
end Field
end Go.Proofs.YtdjifickdcnacaaDoor
end

section
namespace Go.Proofs.YtdjifickdcnacaaDoor
namespace Ham
def bitN (x i : Nat) : Nat := x / 2 ^ i % 2
def place (k : Nat) : Nat := [3,5,6,7,9,10,11,12].getD k 0
def oddTo (x : Nat) : Nat -> Nat
 | 0 => 0
 | k + 1 => if bitN x k = 1 then oddTo x k ^^^ k else oddTo x k
def odd (x : Nat) : Nat := oddTo x 13
def wtTo (x : Nat) : Nat -> Nat
 | 0 => 0
 | k + 1 => wtTo x k + bitN x k
def wt (x : Nat) : Nat := wtTo x 13
def dataTo (b : Nat) : Nat -> Nat
 | 0 => 0
 | k + 1 => dataTo b k ||| bitN b k * 2 ^ place k
def data (b : Nat) : Nat := dataTo b 8
def evenTo (b : Nat) : Nat -> Nat
 | 0 => data b
 | j + 1 => if bitN (odd (data b)) j = 1 then evenTo b j ||| 2 ^ 2 ^ j else evenTo b j
def spread (b : Nat) : Nat := evenTo b 4 ||| wt (evenTo b 4) % 2
def byteTo (x : Nat) : Nat -> Nat
 | 0 => 0
 | k + 1 => byteTo x k ||| bitN x (place k) * 2 ^ k
def byteOf (x : Nat) : Nat := byteTo x 8
theorem mod2_xor (a b : Nat) : (a ^^^ b) % 2 = a % 2 ^^^ b % 2 := by
 have := @Nat.xor_mod_two_pow a b 1
 simpa using this
theorem xor4c (a b c d : Nat) : (a ^^^ b) ^^^ (c ^^^ d) = (a ^^^ c) ^^^ (b ^^^ d) := by
 rw [Nat.xor_assoc,Nat.xor_assoc,<- Nat.xor_assoc b c d,Nat.xor_comm b c,Nat.xor_assoc c b d]
def healed (x : Nat) : Int × Int :=
 if wt x % 2 = 1 ∧ odd x <= 12 then ((byteOf (x ^^^ 2 ^ odd x) : Int),1) else if wt x % 2 = 0 ∧ odd x = 0 then ((byteOf x : Int),0) else (-1,2)
end Ham
end Go.Proofs.YtdjifickdcnacaaDoor
end

section
namespace Go.Proofs.YtdjifickdcnacaaDoor
namespace Wv
def cnt (n d r : Nat) : Nat := (n - r + (d - 1)) / d
def row (d r j : Nat) : List Nat := (List.range j).map fun t => r + d * t
def orderTo (n d R : Nat) : List Nat := (List.range R).flatMap fun r => row d r (cnt n d r)
def order (n d : Nat) : List Nat := orderTo n d d
def st (n d R : Nat) : Nat := (orderTo n d R).length
def num (n d k : Nat) : Nat := (order n d).getD k 0
def dist (a b : Nat) : Nat := (a - b) + (b - a)
def pos (n d x : Nat) : Nat := (order n d).idxOf x
def wovenL (l : List UInt8) (d : Nat) : List UInt8 := (List.range l.length).map fun k => l.getD (num l.length d k) 0
def unwovenL (l : List UInt8) (d : Nat) : List UInt8 := (List.range l.length).map fun x => l.getD (pos l.length d x) 0
theorem ext_getD {l m : List UInt8} (hl : l.length = m.length) (h : ∀ k,k < m.length -> l.getD k 0 = m.getD k 0) : l = m := by
 apply List.ext_getElem hl
 intro k h1 h2
 have := h k h2
 rwa [List.getD_eq_getElem?_getD,List.getD_eq_getElem?_getD,List.getElem?_eq_getElem h1,List.getElem?_eq_getElem h2] at this
end Wv
end Go.Proofs.YtdjifickdcnacaaDoor
end

section
namespace Go.Proofs.YtdjifickdcnacaaDoor
open Go.RowKit
set_option linter.unusedVariables false
def markV (e q : Int) (b : Bool) : Value := .agg #[.int .i64 e,.int .i64 q,.bool b]
end Go.Proofs.YtdjifickdcnacaaDoor
end

section
namespace Go.Proofs.YtdjifickdcnacaaDoor
open Go.RowKit
set_option linter.unusedVariables false
theorem mcell_on {w w' : World} {b o : Nat} {v : Value} (h : w.cell? ⟨b,o,none⟩ = some v) (hb : Below w.heap.size w w') : w'.cell? ⟨b,o,none⟩ = some v := by
 have hlt := World.block_lt_of_cell? _ _ h
 unfold World.cell? at h ⊢
 rw [hb.block b hlt]
 exact h
end Go.Proofs.YtdjifickdcnacaaDoor
end

section
namespace Go.Proofs.YtdjifickdcnacaaDoor
theorem bit_bd {b : Int} (h : bit b = true) : 0 <= b ∧ b <= 1 := by simp [bit] at h; omega
theorem bit_at {xs : List Int} (h : xs.all bit = true) (k : Nat) : bit (xs.getD k 0) = true := by
 rw [List.getD_eq_getElem?_getD]
 by_cases hk : k < xs.length
 ·rw [List.getElem?_eq_getElem hk]
  rw [List.all_eq_true] at h
  exact h _ (List.getElem_mem hk)
 ·rw [List.getElem?_eq_none (by omega)]; rfl
def dist : List Int -> List Int -> Nat
 | x :: xs,y :: ys => (if x = y then 0 else 1) + dist xs ys
 | _,_ => 0
def apart (xs ys : List Int) : Int := if xs.length = ys.length ∧ bitsOk xs = true ∧ bitsOk ys = true then (dist xs ys : Int) else -1
def eight (xs : List Int) (k : Nat) : List Int := [xs.getD k 0,xs.getD (k + 1) 0,xs.getD (k + 2) 0,xs.getD (k + 3) 0,xs.getD (k + 4) 0,xs.getD (k + 5) 0,xs.getD (k + 6) 0,xs.getD (k + 7) 0]
end Go.Proofs.YtdjifickdcnacaaDoor
end

