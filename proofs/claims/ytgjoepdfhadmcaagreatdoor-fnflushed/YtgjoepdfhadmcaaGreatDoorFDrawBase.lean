/- Several texts in one: DrawBase, LawBase, ReadByte, DrawText. -/
import Derived.Test.YtgjoepdfhadmcaaGreatDoorRows
import Derived.Test.YtgjoepdfhadmcaaGreatDoorFBytesBase
import Derived.Test.YtgjoepdfhadmcaaGreatDoorFCopyBase
import Derived.Deep.QuietTactic
import Derived.BigQuiet
import Derived.OpenShut
import Derived.ChangeSlices
import Derived.Deep.Grids
import Derived.Maps.AppendAt
section
namespace Go.Proofs.YtgjoepdfhadmcaaGreatDoor
open Go.RowKit
set_option linter.unusedVariables false
set_option maxRecDepth 20000
theorem Bytes.later {lo hi : Nat} {w w' : World} {a : Option Addr} {n : Nat} {l : List UInt8} (h : Bytes lo hi w a n l) {B : Nat} (hb : Below B w w') (hB : hi <= B) : Bytes lo hi w' a n l := ⟨h.1,h.2.later hb hB⟩
theorem Bytes.aside {lo hi : Nat} {w w' : World} {a : Option Addr} {n : Nat} {l : List UInt8} (h : Bytes lo hi w a n l) {x r : Nat} (hb : Aside x r w w') (hB : hi <= x ∨ r <= lo) : Bytes lo hi w' a n l := ⟨h.1,h.2.aside hb hB⟩
def cur3 (a : Option Addr) (n cap i : Nat) (h : Int) (j : Nat) : Value := if j = 0 then .slice a n cap else if j = 1 then .int .i64 (i : Nat) else .int .i64 h
def Cur (w : World) (p : Nat) : Prop := ∃ lo hi a n cap l i h,Bytes lo hi w a n l ∧ hi <= p ∧ n <= 4096 ∧ i <= n ∧ w.rowIs p 156 3 (cur3 a n cap i h)
theorem Cur.lt {w : World} {p : Nat} (h : Cur w p) : p < w.heap.size := by obtain ⟨_,_,_,_,_,_,_,_,_,_,_,_,h⟩ := h; exact h.lt
theorem Cur.below {w w' : World} {p : Nat} (h : Cur w p) {B : Nat} (hb : Below B w w') (hB : p < B) : Cur w' p := by
 obtain ⟨lo,hi,a,n,cap,l,i,hh,h1,h2,h3,h4,h5⟩ := h
 exact ⟨lo,hi,a,n,cap,l,i,hh,h1.later hb (by omega),h2,h3,h4,h5.of_block (hb.block p hB)⟩
theorem Cur.aside {w w' : World} {p : Nat} (h : Cur w p) {x r : Nat} (hb : Aside x r w w') (hB : p < x) : Cur w' p := by
 obtain ⟨lo,hi,a,n,cap,l,i,hh,h1,h2,h3,h4,h5⟩ := h
 exact ⟨lo,hi,a,n,cap,l,i,hh,h1.aside hb (.inl (by omega)),h2,h3,h4,h5.of_block (hb.block p h5.lt (.inl hB))⟩
theorem Cur.drewN {w : World} {p : Nat} (h : Cur w p) (k : Nat) : Cur (w.drewN k) p := h
theorem Aside.drewN {lo hi : Nat} {a w : World} (h : Aside lo hi a w) (k : Nat) : Aside lo hi a (w.drewN k) := h.trans ⟨rfl,rfl,rfl,Nat.le_refl _,fun _ _ _ => rfl⟩
theorem Aside.grown {lo hi : Nat} {a w w' : World} {row : Option Nat} (h : Aside lo hi a w) (hg : w.grownBy w' row) (hr : ∀ k,row = some k -> a.heap.size <= k) : Aside lo hi a w' :=
 ⟨hg.os.trans h.os,hg.tape.trans h.tape,hg.output.trans h.output,Nat.le_trans h.size hg.size,fun k hk hk' => by
  refine (hg.block k (Nat.lt_of_lt_of_le hk h.size) (fun e => ?_)).trans (h.block k hk hk')
  have := hr k e.symm
  omega⟩
theorem Aside.alloc {lo hi : Nat} {a w : World} (h : Aside lo hi a w) (o : Obj) : Aside lo hi a (w.alloc o) :=
 h.trans ⟨rfl,rfl,rfl,by show _ <= (w.heap.push o).size; simp,fun k hk _ => Go.Deep.blk_alloc_lt _ _ _ hk⟩
theorem Cur.alloc {w : World} {p : Nat} (h : Cur w p) (o : Obj) : Cur (w.alloc o) p := h.below ((Below.refl w.heap.size w).alloc (Nat.le_refl _) o) h.lt
theorem Cur.grown {w w' : World} {p : Nat} (h : Cur w p) {row : Option Nat} (hg : w.grownBy w' row) (hr : ∀ k,row = some k -> p < k) : Cur w' p := by
 obtain ⟨lo,hi,a,n,cap,l,i,hh,h1,h2,h3,h4,h5⟩ := h
 have hlt := h5.lt
 refine ⟨lo,hi,a,n,cap,l,i,hh,⟨h1.1,h1.2.of hg.size (fun k _ hk => hg.block k (by omega) (fun e => ?_))⟩,h2,h3,h4,h5.of_block (hg.block p hlt (fun e => ?_))⟩
 ·have := hr k e.symm; omega
 ·have := hr p e.symm; omega
theorem own_aside {w w' : World} {base e n : Nat} {v : Value} {xs : List Value} (h : w.ownsRow base e 1 v n xs) {l r : Nat} (hb : Aside l r w w') (hr : r <= base) : w'.ownsRow base e 1 v n xs := by
 obtain ⟨h1,h2⟩ := h
 refine ⟨h1,?_⟩
 rcases h2 with hn | ⟨g,cap,cur,rfl,hbg,hgg,rest⟩
 ·exact .inl hn
 ·exact .inr ⟨g,cap,cur,rfl,hbg,(hb.block g (Array.getElem?_eq_some_iff.1 hgg).1 (.inr (by omega))).trans hgg,rest⟩
theorem Owned.wide {lo hi : Nat} {w : World} {a : Option Addr} {n : Nat} {f : Nat -> Value} (h : Owned lo hi w a n f) {hi' : Nat} (h1 : hi <= hi') (h2 : hi' <= w.heap.size) : Owned lo hi' w a n f :=
 ⟨h2,fun hn => by
  obtain ⟨b,off,e,q1,q2,q3⟩ := h.2 hn
  exact ⟨b,off,e,q1,Nat.lt_of_lt_of_le q2 h1,q3⟩⟩
theorem Owned.first {lo hi : Nat} {w : World} {a : Option Addr} {n : Nat} {f : Nat -> Value} (h : Owned lo hi w a n f) {m : Nat} (hm : m <= n) : Owned lo hi w a m f :=
 ⟨h.1,fun hn => by
  obtain ⟨b,off,e,q1,q2,q3⟩ := h.2 (by omega)
  exact ⟨b,off,e,q1,q2,fun i hi => q3 i (by omega)⟩⟩
theorem aside_of_below {w w' : World} {lo hi : Nat} (h : Below w.heap.size w w') : Aside lo hi w w' := ⟨h.os,h.tape,h.output,h.size,fun k hk _ => h.block k hk⟩
end Go.Proofs.YtgjoepdfhadmcaaGreatDoor
end

section
namespace Go.Proofs.YtgjoepdfhadmcaaGreatDoor
open Go.RowKit
set_option linter.unusedVariables false
set_option maxRecDepth 20000
theorem bytes_of {w : World} {a : Option Addr} {len cap : Nat} {zs : List Int} (h : (a = none ∧ len = 0 ∧ cap = 0 ∧ zs = []) ∨ ∃ x,a = some x ∧ len <= cap ∧ cap <= maxLen ∧ zs.length = cap ∧ (∀ i,i < zs.length -> w.cell? (x.add i) = some (.int .u8 (zs.getD i 0))) ∧ ∀ n ∈ zs,(Lit.int .u8 n).wf = true) : Bytes 0 w.heap.size w a len ((zs.take len).map fun z => UInt8.ofNat z.toNat) := by
 rcases h with ⟨rfl,rfl,rfl,rfl⟩ | ⟨x,rfl,hl,hm,hz,hc,hw⟩
 ·exact ⟨rfl,Nat.le_refl _,fun h => absurd h (Nat.lt_irrefl _)⟩
 ·refine ⟨by rw [List.length_map,List.length_take]; omega,Nat.le_refl _,fun hn => ?_⟩
  obtain ⟨b,off,spot⟩ := x
  have h0 := hc 0 (by omega)
  have hs : spot = none := by simpa [Addr.add] using World.cell?_spot h0
  subst hs
  refine ⟨b,off,rfl,Nat.zero_le _,World.block_lt_of_cell? _ _ h0,fun i hi => ?_⟩
  have hi' : w.cell? ⟨b,off + i,none⟩ = some (.int .u8 (zs.getD i 0)) := by
   have hi'' := hc i (by omega)
   simp only [Addr.add] at hi''
   split at hi''
   ·rename_i e; subst e; exact hi''
   ·exact hi''
  have hil : i < zs.length := by omega
  have hwf := bounds_u8 (hw (zs.getD i 0) (by rw [List.getD_eq_getElem?_getD,List.getElem?_eq_getElem hil]; exact List.getElem_mem hil))
  have e : ((zs.take len).map fun z => UInt8.ofNat z.toNat).getD i 0 = UInt8.ofNat (zs.getD i 0).toNat := by
   rw [List.getD_eq_getElem?_getD,List.getElem?_map,List.getElem?_take,if_pos hi,List.getD_eq_getElem?_getD,List.getElem?_eq_getElem hil]; rfl
  rw [hi',cellB,e,UInt8.toNat_ofNat']
  congr 2
  omega
set_option maxHeartbeats 400000 in
theorem big_any (a : Option Addr) (n cap : Nat) (w : World) (hn : n <= 9223372036854775807) :
  Calls Tryz.prog 8 #[.slice a n cap] w fun e w' => e = .returned (.bool (decide (4096 < n))) ∧ w = w' := by
 by_cases h : 4096 < n
 ·go_enter Tryz.func8,Tryz.ntmps8
  go_wp2
  go_ret
  exact ⟨by simp [h]; omega,rfl⟩
 ·go_enter Tryz.func8,Tryz.ntmps8
  go_wp2
  go_ret
  exact ⟨by simp [h]; omega,rfl⟩
set_option maxHeartbeats 400000 in
theorem pick_any (a : Option Addr) (n cap : Nat) (l : List UInt8) (seed m : Int) (w : World) {lo hi : Nat} (hB : Bytes lo hi w a n l) (hn : n <= 4096) (h0 : 0 <= seed) (h1 : seed <= 65536) (m0 : 0 < m) (m1 : m <= 65536) :
  Calls Tryz.prog 27 #[.slice a n cap,.int .i64 seed,.int .i64 m] w fun e w' => ∃ x : Int,e = .returned (.int .i64 x) ∧ 0 <= x ∧ x < m ∧ w = w' := by
 obtain ⟨hl,hsz,hx⟩ := hB
 clear hl
 go_enter Tryz.func27,Tryz.ntmps27
 go_wp2
 go_loop [7,8] (fun t i => ∃ (k : Nat) (h : Int),k <= n ∧ i = .int .i64 k ∧ t = .int .i64 h ∧ 0 <= h ∧ h <= 1000000000) (fun _ i => n - (intOf i).toNat)
 case atStart => exact ⟨0,_,Nat.zero_le _,rfl,rfl,by omega,by omega⟩
 case round =>
  obtain ⟨k,h,hk,rfl,rfl,hh0,hh1⟩ := hrel
  by_cases hlt : k < n
  ·obtain ⟨b,off,rfl,_,hb,hc⟩ := hx (by omega)
   have hck : w.cell? ⟨b,off + k,none⟩ = some (.int .u8 ((l.getD k 0).toNat : Int)) := hc k hlt
   obtain ⟨v,hv⟩ : ∃ v,v = (l.getD k 0).toNat := ⟨_,rfl⟩
   have hv2 : v < 256 := by rw [hv]; exact UInt8.toNat_lt _
   rw [<- hv] at hck
   clear hc hx hv
   go_wp2
   go_round
   case rel => exact ⟨k + 1,_,by omega,by go_num,rfl,by omega,by omega⟩
   case measure => simp [intOf]; omega
  ·have hne : (m == 0) = false := by simp; omega
   go_wp2
   go_ret
   exact ⟨_,rfl,Int.emod_nonneg _ (by omega),Int.emod_lt_of_pos _ m0,rfl⟩
end Go.Proofs.YtgjoepdfhadmcaaGreatDoor
end

section
namespace Go.Proofs.YtgjoepdfhadmcaaGreatDoor
open Go.RowKit Go.ChangeShapes Go.Deep
set_option linter.unusedVariables false
theorem bytes_read {H : Type} {enc : TypeId × Value -> H} {P : Program} {W : World} {t e : TypeId} {a : Option Addr} {len cap : Nat} {d : DataW H} {ps : List MemPlace} (ht : P.underlying t = some (.slice e)) (he : P.underlying e = some (.int .u8)) (hc : P.cellsOf e = 1)
  (h : DataW.Trod enc P W 0 (fun _ => true) true t (.slice a len cap) d ps) : ∃ xs,Bytes 0 W.heap.size W a len xs ∧ len <= maxLen := by
 obtain ⟨fuel,hf⟩ := h
 rcases open_ints ht he hc hf with ⟨hcs,_⟩ | ⟨x,l,c,zs,hcs,_,hl,hm,hz,_,hcell,hwf⟩
 ·simp [Value.cells] at hcs
  obtain ⟨rfl,rfl,rfl⟩ := hcs
  exact ⟨[],⟨rfl,Nat.le_refl _,fun h => absurd h (Nat.lt_irrefl _)⟩,Nat.zero_le _⟩
 ·simp [Value.cells] at hcs
  obtain ⟨rfl,rfl,rfl⟩ := hcs
  simp only [if_true] at hz
  exact ⟨_,bytes_of (cap := cap) (.inr ⟨x,rfl,hl,hm,hz,hcell,hwf⟩),by omega⟩
end Go.Proofs.YtgjoepdfhadmcaaGreatDoor
end

section
namespace Go.Proofs.YtgjoepdfhadmcaaGreatDoor
open Go.RowKit
set_option linter.unusedVariables false
set_option maxRecDepth 20000
theorem Tryz.infoU8d : (Tryz.prog.info? 5).map (fun i => (i.zero,i.size,i.bytes)) = some (some (.int .u8 0),1,1) := by kernel_rfl
def byteV (b : UInt8) : Value := .int .u8 (b.toNat : Int)
theorem byteV_one (b : UInt8) : ∀ u ∈ [byteV b],u.oneCell' = true := by intro u hu; simp at hu; subst hu; rfl
theorem ownBytes_of {w : World} {base e n : Nat} {v : Value} {l : List UInt8} (h : w.ownsRow base e 1 v n (l.map byteV)) {lo : Nat} (hlo : lo <= base) :
  ∃ a cap,v = .slice a n cap ∧ n <= cap ∧ OwnBytes lo w.heap.size w a n l := by
 obtain ⟨a,cap,rfl,hcap,hlen,_,how⟩ := owned_of_own h
 rw [List.length_map] at hlen
 refine ⟨a,cap,rfl,hcap,hlen,how.1,fun hn => ?_⟩
 obtain ⟨b,off,e,h1,h2,h3⟩ := how.2 hn
 refine ⟨b,off,e,Nat.le_trans hlo h1,h2,fun i hi => ?_⟩
 obtain ⟨h4,h5⟩ := h3 i hi
 refine ⟨h4.trans ?_,h5⟩
 show some ((l.map byteV).getD i (.int .i64 0)) = some (cellB l i)
 rw [List.getD_eq_getElem?_getD]
 simp [show i < l.length by omega,byteV,cellB,List.getD_eq_getElem?_getD]
end Go.Proofs.YtgjoepdfhadmcaaGreatDoor
end

