/- Several texts in one: DrawBase, DrawText, WeaveSpec, DrawBend, WalkY1. -/
import Derived.Test.YtdjifickdcnacaaDoorRows
import Derived.Test.YtdjifickdcnacaaDoorNBytesBase
import Derived.Test.YtdjifickdcnacaaDoorNCopyBase
import Derived.Deep.QuietTactic
import Derived.BigQuiet
import Derived.Maps.AppendAt
import Derived.Test.YtdjifickdcnacaaDoorNInfo
import Derived.Test.YtdjifickdcnacaaDoorNBase
import Derived.Deep.RegionHeld3
import Derived.Deep.AppendLies
section
namespace Go.Proofs.YtdjifickdcnacaaDoor
open Go.RowKit
set_option linter.unusedVariables false
set_option maxRecDepth 20000
theorem i64_and255 (n : Int) : bits .and .i64 n 255 = n % 256 := by
 have h255 : (BitVec.ofInt 64 255).toNat = 2 ^ 8 - 1 := by decide
 have key : (BitVec.ofInt 64 n &&& BitVec.ofInt 64 255).toNat = (n % ((2 ^ 64 : Nat) : Int)).toNat % 2 ^ 8 := by
  rw [BitVec.toNat_and,BitVec.toNat_ofInt,h255,Nat.and_two_pow_sub_one_eq_mod]
 show IntKind.i64.wrap ((BitVec.ofInt 64 n &&& BitVec.ofInt 64 255).toNat : Nat) = n % 256
 rw [key,IntKind.wrap_i64]
 omega
theorem Bytes.later {lo hi : Nat} {w w' : World} {a : Option Addr} {n : Nat} {l : List UInt8} (h : Bytes lo hi w a n l) {B : Nat} (hb : Below B w w') (hB : hi <= B) : Bytes lo hi w' a n l := ⟨h.1,h.2.later hb hB⟩
theorem Bytes.aside {lo hi : Nat} {w w' : World} {a : Option Addr} {n : Nat} {l : List UInt8} (h : Bytes lo hi w a n l) {x r : Nat} (hb : Aside x r w w') (hB : hi <= x ∨ r <= lo) : Bytes lo hi w' a n l := ⟨h.1,h.2.aside hb hB⟩
def cur3 (a : Option Addr) (n cap i : Nat) (h : Int) (j : Nat) : Value := if j = 0 then .slice a n cap else if j = 1 then .int .i64 (i : Nat) else .int .i64 h
def Cur (w : World) (p : Nat) : Prop := ∃ lo hi a n cap l i h,Bytes lo hi w a n l ∧ hi <= p ∧ n <= 4096 ∧ i <= n ∧ w.rowIs p 121 3 (cur3 a n cap i h)
theorem Cur.lt {w : World} {p : Nat} (h : Cur w p) : p < w.heap.size := by obtain ⟨_,_,_,_,_,_,_,_,_,_,_,_,h⟩ := h; exact h.lt
theorem Cur.below {w w' : World} {p : Nat} (h : Cur w p) {B : Nat} (hb : Below B w w') (hB : p < B) : Cur w' p := by
 obtain ⟨lo,hi,a,n,cap,l,i,hh,h1,h2,h3,h4,h5⟩ := h
 exact ⟨lo,hi,a,n,cap,l,i,hh,h1.later hb (by omega),h2,h3,h4,h5.of_block (hb.block p hB)⟩
theorem Cur.aside {w w' : World} {p : Nat} (h : Cur w p) {x r : Nat} (hb : Aside x r w w') (hB : p < x) : Cur w' p := by
 obtain ⟨lo,hi,a,n,cap,l,i,hh,h1,h2,h3,h4,h5⟩ := h
 exact ⟨lo,hi,a,n,cap,l,i,hh,h1.aside hb (.inl (by omega)),h2,h3,h4,h5.of_block (hb.block p h5.lt (.inl hB))⟩
theorem Cur.drewN {w : World} {p : Nat} (h : Cur w p) (k : Nat) : Cur (w.drewN k) p := h
theorem Aside.drewN {lo hi : Nat} {a w : World} (h : Aside lo hi a w) (k : Nat) : Aside lo hi a (w.drewN k) := h.trans ⟨rfl,rfl,rfl,Nat.le_refl _,fun _ _ _ => rfl⟩
theorem and255_lo (n : Int) : 0 <= bits .and .i64 n 255 := by rw [i64_and255]; omega
theorem and255_hi (n : Int) : bits .and .i64 n 255 <= 255 := by rw [i64_and255]; omega
theorem cur_step0 {w : World} {p lo hi n cap i : Nat} {a : Option Addr} {l : List UInt8} {h : Int} (hB : Bytes lo hi w a n l) (hp : hi <= p) (hn : n <= 4096) (hi' : i <= n) (hrow : w.rowIs p 121 3 (cur3 a n cap i h)) (H : Int) (k k' : Nat) :
  Cur (((w.setCell ⟨p,2,none⟩ (.int .i64 H)).drewN k).drewN k') p ∧ Aside p (p + 1) w (((w.setCell ⟨p,2,none⟩ (.int .i64 H)).drewN k).drewN k') := by
 have hA : Aside p (p + 1) w (w.setCell ⟨p,2,none⟩ (.int .i64 H)) := (Aside.refl p (p + 1) w).setCell (p := ⟨p,2,none⟩) (Nat.le_refl _) (Nat.lt_succ_self _) _
 have hR := (hrow.set 2 (.int .i64 H)).congr (g := cur3 a n cap i H) (fun j hj => by
  match j,hj with
  | 0,_ | 1,_ | 2,_ => rfl)
 have hC : Cur (w.setCell ⟨p,2,none⟩ (.int .i64 H)) p := ⟨lo,hi,a,n,cap,l,i,H,hB.aside hA (.inl hp),hp,hn,hi',hR⟩
 exact ⟨hC,(hA.drewN k).drewN k'⟩
theorem cur_step1 {w : World} {p lo hi n cap i : Nat} {a : Option Addr} {l : List UInt8} {h : Int} (hB : Bytes lo hi w a n l) (hp : hi <= p) (hn : n <= 4096) (hi' : i < n) (hrow : w.rowIs p 121 3 (cur3 a n cap i h)) (H : Int) (k : Nat) :
  Cur (((w.setCell ⟨p,2,none⟩ (.int .i64 H)).drewN k).setCell ⟨p,1,none⟩ (.int .i64 ((i : Int) + 1))) p ∧ Aside p (p + 1) w (((w.setCell ⟨p,2,none⟩ (.int .i64 H)).drewN k).setCell ⟨p,1,none⟩ (.int .i64 ((i : Int) + 1))) := by
 have hA0 : Aside p (p + 1) w ((w.setCell ⟨p,2,none⟩ (.int .i64 H)).drewN k) := ((Aside.refl p (p + 1) w).setCell (p := ⟨p,2,none⟩) (Nat.le_refl _) (Nat.lt_succ_self _) _).drewN k
 have hA := hA0.setCell (p := ⟨p,1,none⟩) (Nat.le_refl _) (Nat.lt_succ_self _) (.int .i64 ((i : Int) + 1))
 have hR0 : ((w.setCell ⟨p,2,none⟩ (.int .i64 H)).drewN k).rowIs p 121 3 _ := hrow.set 2 (.int .i64 H)
 have hR := (hR0.set 1 (.int .i64 ((i : Int) + 1))).congr (g := cur3 a n cap (i + 1) H) (fun j hj => by
  match j,hj with
  | 0,_ | 1,_ | 2,_ => rfl)
 exact ⟨⟨lo,hi,a,n,cap,l,i + 1,H,hB.aside hA (.inl hp),hp,hn,by omega,hR⟩,hA⟩
set_option maxHeartbeats 1600000 in
theorem l1Byte_any (p : Nat) (w : World) (hc : Cur w p) :
  Calls Tryd.prog 115 #[.pointer (some ⟨p,0,none⟩)] w fun e w' => ∃ x : Int,e = .returned (.int .i64 x) ∧ 0 <= x ∧ x <= 255 ∧ Cur w' p ∧ Aside p (p + 1) w w' := by
 obtain ⟨lo,hi,a,n,cap,l,i,h,hB,hp,hn,hi',hrow⟩ := hc
 have c0 : w.cell? ⟨p,0,none⟩ = some (.slice a n cap) := hrow.cell (i := 0) (by omega)
 have c1 : w.cell? ⟨p,1,none⟩ = some (.int .i64 (i : Nat)) := hrow.cell (i := 1) (by omega)
 have c2 : w.cell? ⟨p,2,none⟩ = some (.int .i64 h) := hrow.cell (i := 2) (by omega)
 have f0 := hrow.frozen
 by_cases hlt : i < n
 ·obtain ⟨b,off,rfl,_,hb,hcell⟩ := hB.2.2 (by omega)
  have hcb : w.cell? ⟨b,off + i,none⟩ = some (.int .u8 ((l.getD i 0).toNat : Int)) := hcell i hlt
  have hne : b ≠ p := by omega
  have hcb' : (w.setCell ⟨p,2,none⟩ (.int .i64 (wrap64 (wrap64 (h * 6364136223846793005) + 1442695040888963407)))).cell? ⟨b,off + i,none⟩ = some (.int .u8 ((l.getD i 0).toNat : Int)) := by
   rw [World.cell?_setCell_other _ _ _ _ (by intro e; simp only [Addr.mk.injEq] at e; omega)]; exact hcb
  have HB := hide hB
  have HR := hide hrow
  clear hB hrow hcell
  go_enter Tryd.func115,Tryd.ntmps115
  go_wp2
  go_quiet (fail)
  go_wp2
  go_quiet (fail)
  go_wp2
  go_quiet (fail)
  go_wp2
  go_ret
  have hst := cur_step1 HB.out hp hn hlt HR.out (wrap64 (wrap64 (h * 6364136223846793005) + 1442695040888963407))
  exact ⟨_,rfl,and255_lo _,and255_hi _,(hst _).1,(hst _).2⟩
 ·have HB := hide hB
  have HR := hide hrow
  clear hB hrow
  go_enter Tryd.func115,Tryd.ntmps115
  go_wp2
  go_quiet (fail)
  go_wp2
  go_quiet (fail)
  go_wp2
  go_ret
  have hst := cur_step0 HB.out hp hn hi' HR.out (wrap64 (wrap64 (h * 6364136223846793005) + 1442695040888963407))
  exact ⟨_,rfl,and255_lo _,and255_hi _,(hst _ _).1,(hst _ _).2⟩
set_option maxHeartbeats 800000 in
theorem l1Below_any (p : Nat) (n : Int) (w : World) (hc : Cur w p) (hn : n <= 4294967296) :
  Calls Tryd.prog 75 #[.pointer (some ⟨p,0,none⟩),.int .i64 n] w fun e w' => ∃ x : Int,e = .returned (.int .i64 x) ∧ 0 <= x ∧ (x < n ∨ x = 0) ∧ Cur w' p ∧ Aside p (p + 1) w w' := by
 by_cases h0 : n <= 0
 ·go_enter Tryd.func75,Tryd.ntmps75
  go_wp2
  go_ret
  exact ⟨_,rfl,Int.le_refl _,.inr rfl,hc,Aside.refl _ _ _⟩
 ·have hne : (n == 0) = false := by simp; omega
  have hnp : 0 < n := by omega
  by_cases h1 : n <= 256
  ·go_enter Tryd.func75,Tryd.ntmps75
   go_wp2_with fail
   refine (l1Byte_any p w hc).mono ?_
   rintro e w1 ⟨x,rfl,x0,x1,c1,s1⟩
   go_wp2_with fail
   go_ret
   exact ⟨_,rfl,Int.emod_nonneg _ (by omega),.inl (Int.emod_lt_of_pos _ hnp),c1,s1⟩
  ·go_enter Tryd.func75,Tryd.ntmps75
   go_wp2_with fail
   refine (l1Byte_any p w hc).mono ?_
   rintro e w1 ⟨x,rfl,x0,x1,c1,s1⟩
   go_wp2_with fail
   refine (l1Byte_any p w1 c1).mono ?_
   rintro e w2 ⟨y,rfl,y0,y1,c2,s2⟩
   go_wp2_with fail
   refine (l1Byte_any p w2 c2).mono ?_
   rintro e w3 ⟨z,rfl,z0,z1,c3,s3⟩
   go_wp2_with fail
   refine (l1Byte_any p w3 c3).mono ?_
   rintro e w4 ⟨u,rfl,u0,u1,c4,s4⟩
   go_wp2_with fail
   go_ret
   exact ⟨_,rfl,Int.emod_nonneg _ (by omega),.inl (Int.emod_lt_of_pos _ hnp),c4,((s1.trans s2).trans s3).trans s4⟩
set_option maxHeartbeats 400000 in
theorem l1Once_any (p : Nat) (n : Int) (w : World) (hc : Cur w p) (hn : n <= 4294967296) :
  Calls Tryd.prog 54 #[.pointer (some ⟨p,0,none⟩),.int .i64 n] w fun e w' => ∃ b : Bool,e = .returned (.bool b) ∧ Cur w' p ∧ Aside p (p + 1) w w' := by
 go_enter Tryd.func54,Tryd.ntmps54
 go_wp2_with fail
 refine (l1Below_any p n w hc hn).mono ?_
 rintro e w1 ⟨x,rfl,_,_,c1,s1⟩
 go_wp2_with fail
 go_ret
 exact ⟨_,rfl,c1,s1⟩
theorem Aside.grown {lo hi : Nat} {a w w' : World} {row : Option Nat} (h : Aside lo hi a w) (hg : w.grownBy w' row) (hr : ∀ k,row = some k -> a.heap.size <= k) : Aside lo hi a w' :=
 ⟨hg.os.trans h.os,hg.tape.trans h.tape,hg.output.trans h.output,Nat.le_trans h.size hg.size,fun k hk hk' => by
  refine (hg.block k (Nat.lt_of_lt_of_le hk h.size) (fun e => ?_)).trans (h.block k hk hk')
  have := hr k e.symm
  omega⟩
theorem Aside.alloc {lo hi : Nat} {a w : World} (h : Aside lo hi a w) (o : Obj) : Aside lo hi a (w.alloc o) :=
 h.trans ⟨rfl,rfl,rfl,by show _ <= (w.heap.push o).size; simp,fun k hk _ => Go.Deep.blk_alloc_lt _ _ _ hk⟩
theorem Cur.alloc {w : World} {p : Nat} (h : Cur w p) (o : Obj) : Cur (w.alloc o) p := h.below ((Below.refl w.heap.size w).alloc (Nat.le_refl _) o) h.lt
theorem Cur.grown {w w' : World} {p : Nat} (h : Cur w p) {row : Option Nat} (hg : w.grownBy w' row) (hr : ∀ k,row = some k -> p < k) : Cur w' p := by
 obtain ⟨lo,hi,a,n,cap,l,i,hh,h1,h2,h3,h4,h5⟩ := h
 have hlt := h5.lt
 refine ⟨lo,hi,a,n,cap,l,i,hh,⟨h1.1,h1.2.of hg.size (fun k _ hk => hg.block k (by omega) (fun e => ?_))⟩,h2,h3,h4,h5.of_block (hg.block p hlt (fun e => ?_))⟩
 ·have := hr k e.symm; omega
 ·have := hr p e.symm; omega
set_option maxHeartbeats 800000 in
theorem l1New_any (a : Option Addr) (n cap : Nat) (l : List UInt8) (w : World) {lo hi : Nat} (hB : Bytes lo hi w a n l) (hn : n <= 4096) :
  Calls Tryd.prog 52 #[.slice a n cap] w fun e w' => ∃ p,e = .returned (.pointer (some ⟨p,0,none⟩)) ∧ w.heap.size <= p ∧ Cur w' p ∧ Below w.heap.size w w' := by
 have hI := hide hB
 obtain ⟨hl,hsz,hx⟩ := hB
 clear hl
 go_enter Tryd.func52,Tryd.ntmps52
 go_wp2
 go_loop [3,4] (fun t i => ∃ (k : Nat) (h : Int),k <= n ∧ i = .int .i64 k ∧ t = .int .i64 h) (fun _ i => n - (intOf i).toNat)
 case atStart => exact ⟨0,_,Nat.zero_le _,rfl,rfl⟩
 case round =>
  obtain ⟨k,h,hk,rfl,rfl⟩ := hrel
  by_cases hlt : k < n
  ·obtain ⟨b,off,rfl,_,hb,hc⟩ := hx (by omega)
   have hck : w.cell? ⟨b,off + k,none⟩ = some (.int .u8 ((l.getD k 0).toNat : Int)) := hc k hlt
   clear hc hx
   go_wp2
   go_round
   case rel => exact ⟨k + 1,_,by omega,by go_num,rfl⟩
   case measure => simp [intOf]; omega
  ·go_wp2
   go_ret
   have bel := (Below.refl w.heap.size w).alloc (Nat.le_refl _) (.cells #[.slice a n cap,.int .i64 0,.int .i64 h] 121)
   exact ⟨_,rfl,Nat.le_refl _,⟨lo,hi,a,n,cap,l,0,h,hI.out.later bel hsz,hsz,hn,Nat.zero_le _,World.rowIs_alloc w _ 121 _ (fun i hi => by
    match i,hi with
    | 0,_ | 1,_ | 2,_ => rfl)⟩,bel⟩
theorem own_aside {w w' : World} {base e n : Nat} {v : Value} {xs : List Value} (h : w.ownsRow base e 1 v n xs) {l r : Nat} (hb : Aside l r w w') (hr : r <= base) : w'.ownsRow base e 1 v n xs := by
 obtain ⟨h1,h2⟩ := h
 refine ⟨h1,?_⟩
 rcases h2 with hn | ⟨g,cap,cur,rfl,hbg,hgg,rest⟩
 ·exact .inl hn
 ·exact .inr ⟨g,cap,cur,rfl,hbg,(hb.block g (Array.getElem?_eq_some_iff.1 hgg).1 (.inr (by omega))).trans hgg,rest⟩
theorem Cur.set_new {w : World} {p : Nat} (h : Cur w p) {g q : Nat} (hg : p < g) (v : Value) : Cur (w.setCell ⟨g,q,none⟩ v) p :=
 h.aside ((Aside.refl g (g + 1) w).setCell (p := ⟨g,q,none⟩) (Nat.le_refl _) (Nat.lt_succ_self _) v) hg
theorem Aside.set_new {lo hi : Nat} {a w : World} (h : Aside lo hi a w) {g q : Nat} (hg : a.heap.size <= g) (v : Value) : Aside lo hi a (w.setCell ⟨g,q,none⟩ v) :=
 ⟨h.os,h.tape,h.output,by rw [Go.Deep.nblk_setCell]; exact h.size,fun k hk hk' => (Go.Deep.blk_setCell_other _ _ _ _ (by show k ≠ g; omega)).trans (h.block k hk hk')⟩
theorem Owned.wide {lo hi : Nat} {w : World} {a : Option Addr} {n : Nat} {f : Nat -> Value} (h : Owned lo hi w a n f) {hi' : Nat} (h1 : hi <= hi') (h2 : hi' <= w.heap.size) : Owned lo hi' w a n f :=
 ⟨h2,fun hn => by
  obtain ⟨b,off,e,q1,q2,q3⟩ := h.2 hn
  exact ⟨b,off,e,q1,Nat.lt_of_lt_of_le q2 h1,q3⟩⟩
theorem Owned.first {lo hi : Nat} {w : World} {a : Option Addr} {n : Nat} {f : Nat -> Value} (h : Owned lo hi w a n f) {m : Nat} (hm : m <= n) : Owned lo hi w a m f :=
 ⟨h.1,fun hn => by
  obtain ⟨b,off,e,q1,q2,q3⟩ := h.2 (by omega)
  exact ⟨b,off,e,q1,q2,fun i hi => q3 i (by omega)⟩⟩
theorem cellB_take (l : List UInt8) (q i : Nat) (h : i < q) : cellB l i = cellB (l.take q) i := by
 unfold cellB
 rw [List.getD_eq_getElem?_getD,List.getD_eq_getElem?_getD,List.getElem?_take,if_pos h]
theorem cellB_set (l : List UInt8) (q i : Nat) (u : UInt8) (h : q < l.length) : (if i = q then Value.int .u8 (u.toNat : Int) else cellB l i) = cellB (l.set q u) i := by
 unfold cellB
 by_cases e : i = q
 ·subst e; rw [if_pos rfl]; simp [List.getD_eq_getElem?_getD,h]
 ·rw [if_neg e,List.getD_eq_getElem?_getD,List.getD_eq_getElem?_getD,List.getElem?_set_ne (fun h => e h.symm)]
theorem aside_of_below {w w' : World} {lo hi : Nat} (h : Below w.heap.size w w') : Aside lo hi w w' := ⟨h.os,h.tape,h.output,h.size,fun k hk _ => h.block k hk⟩
end Go.Proofs.YtdjifickdcnacaaDoor
end

section
namespace Go.Proofs.YtdjifickdcnacaaDoor
open Go.RowKit
set_option linter.unusedVariables false
set_option maxRecDepth 20000
theorem Tryd.infoU8d : (Tryd.prog.info? 5).map (fun i => (i.zero,i.size,i.bytes)) = some (some (.int .u8 0),1,1) := by kernel_rfl
def byteV (b : UInt8) : Value := .int .u8 (b.toNat : Int)
theorem byte_of (x : Int) (h0 : 0 <= x) (h1 : x <= 255) : ∃ u : UInt8,x = (u.toNat : Int) := by
 refine ⟨UInt8.ofNat x.toNat,?_⟩
 rw [UInt8.toNat_ofNat']
 omega
theorem byteV_one (b : UInt8) : ∀ u ∈ [byteV b],u.oneCell' = true := by intro u hu; simp at hu; subst hu; rfl
theorem size_mk (l : List UInt8) : (⟨l.toArray⟩ : ByteArray).size = l.length := rfl
set_option maxHeartbeats 1600000 in
theorem drawText_any (p : Nat) (m : Int) (w : World) (hc : Cur w p) (h0 : 0 <= m) (h1 : m <= 65536) :
  Calls Tryd.prog 103 #[.pointer (some ⟨p,0,none⟩),.int .i64 m] w fun e w' => ∃ s : ByteArray,e = .returned (.string s) ∧ (s.size : Int) <= m ∧ Cur w' p ∧ Aside p (p + 1) w w' := by
 obtain ⟨i0,hi0,hz0,hz1,hz2⟩ := info_parts Tryd.infoU8d
 have hpl := hc.lt
 have HO := hide (own_made0 w 5)
 go_enter Tryd.func103,Tryd.ntmps103
 go_wp2_with fail
 refine (l1Below_any p _ _ (hc.alloc _) (by omega)).mono ?_
 rintro e w1 ⟨x,rfl,x0,x1,c1,s1⟩
 have A1 := ((Aside.refl p (p + 1) w).alloc (.cells #[] 5)).trans s1
 have HO1 := hide (own_aside HO.out s1 (by omega))
 have HA1 := hide A1
 clear HO A1 s1
 go_wp2_with fail
 go_loopw [5,6] (fun v i wr => ∃ (l : List UInt8) (k : Int),i = .int .i64 k ∧ 0 <= k ∧ k + l.length <= m ∧ wr.ownsRow w.heap.size 5 1 v l.length (l.map byteV) ∧ Cur wr p ∧ Aside p (p + 1) w wr) (fun _ i _ => (intOf i).toNat)
 case atStart => exact ⟨[],x,rfl,x0,by simp; omega,HO1.out,c1,HA1.out⟩
 case round =>
  obtain ⟨l,k,rfl,k0,k1,hown,hcr,hA⟩ := hrel
  clear HO1 HA1
  by_cases hlt : 0 < k
  ·have HOWN := hide hown
   have HA := hide hA
   clear hown hA
   go_wp2_with fail
   refine (l1Below_any p 4 wr hcr (by omega)).mono ?_
   rintro e w2 ⟨y,rfl,y0,y1,c2,s2⟩
   obtain ⟨u,hu⟩ := byte_of (97 + y) (by omega) (by omega)
   have A2 := HA.out.trans s2
   have s2' := A2.size
   have HO2 := hide ((own_aside HOWN.out s2 (by omega)).alloc (.cells #[.int .u8 (u.toNat : Int)] 5))
   have HA2 := hide (A2.alloc (.cells #[.int .u8 (u.toNat : Int)] 5))
   have HC2 := hide (c2.alloc (.cells #[.int .u8 (u.toNat : Int)] 5))
   have hl31 : l.length <= 65536 := by omega
   clear A2 s2 c2 HOWN HA hcr
   go_wp2_with (at_builtin; (refine wpList_append_own _ rfl (.tmp 16) (.tmp 21) 22 rfl w.heap.size 5 i0 (.int .u8 0) 1 1 Tryd.underlying22 hi0 hz0 hz1 hz2 rfl (by decide) _ _ _ rfl HO2.out ⟨w2.heap.size,0,none⟩ 1 1 [.int .u8 (u.toNat : Int)] rfl rfl (cell_one_new _ _ _) (byteV_one u) (by unfold maxLen; omega) (by omega) (by simp; omega) ?_); intro v' w3 hown hgrow _; have HO3 := hide hown; have HA3 := hide (HA2.out.grown hgrow (fun k hk => (HO2.out.lt k hk).1)); have HC3 := hide (HC2.out.grown hgrow (fun k hk => Nat.lt_of_lt_of_le hpl (HO2.out.lt k hk).1)); clear hown hgrow)
   go_roundw
   case rel => exact ⟨l ++ [u],k - 1,by go_num,by omega,by simp; omega,by rw [List.length_append,List.map_append]; exact HO3.out,HC3.out,HA3.out⟩
   case measure => simp [intOf]; omega
  ·obtain ⟨a',cap',rfl,hcap',hlen,hsome,how⟩ := owned_of_own hown
   have HHOW := hide how
   have HLEN := hide hlen
   have HA := hide hA
   have hl31 : l.length <= 65536 := by omega
   clear hown how hA hlen
   go_wp2_with fail
   refine (l1Once_any p 5 wr hcr (by omega)).mono ?_
   rintro e w2 ⟨b,rfl,c2,s2⟩
   have HOW2 := hide (HHOW.out.aside s2 (.inr (by omega)))
   have HA2 := hide (HA.out.trans s2)
   clear HHOW HA s2
   cases b
   ·have hB : Bytes w.heap.size wr.heap.size w2 a' l.length l := ⟨rfl,(HOW2.out.congr (fun i hi => by rw [List.getD_eq_getElem?_getD]; simp [hi,byteV,cellB,List.getD_eq_getElem?_getD])).reads⟩
    have hst := string_of (P := Tryd.prog) hB 22 9 5 cap' Tryd.underlying22 Tryd.underlying5 Tryd.underlying9
    clear hB
    go_wp2
    go_ret
    exact ⟨_,rfl,by rw [size_mk]; omega,c2,HA2.out⟩
   ·by_cases hl0 : l.length = 0
    ·obtain rfl : l = [] := List.eq_nil_of_length_eq_zero hl0
     have hB : Bytes w.heap.size wr.heap.size w2 a' 0 [] := ⟨rfl,HOW2.out.1,fun h => absurd h (Nat.lt_irrefl _)⟩
     have hst := string_of (P := Tryd.prog) hB 22 9 5 cap' Tryd.underlying22 Tryd.underlying5 Tryd.underlying9
     clear hB
     go_wp2
     go_ret
     exact ⟨_,rfl,by rw [size_mk]; simpa using h0,c2,HA2.out⟩
    ·have hz : (0 : Int) < (l.length : Int) := by omega
     obtain ⟨g,rfl⟩ := hsome (by omega)
     go_wp2_with fail
     refine (l1Below_any p _ w2 c2 (by omega)).mono ?_
     rintro e w3 ⟨y,rfl,y0,y1,c3,s3⟩
     obtain ⟨q,rfl⟩ := Int.eq_ofNat_of_zero_le y0
     have hq : q < l.length := by omega
     have HOW3 := hide (HOW2.out.aside s3 (.inr (by omega)))
     have HA3 := hide (HA2.out.trans s3)
     clear HOW2 HA2 s3
     go_wp2_with fail
     refine (l1Byte_any p w3 c3).mono ?_
     rintro e w4 ⟨z,rfl,z0,z1,c4,s4⟩
     have how4 := HOW3.out.aside s4 (.inr (by omega))
     have A4 := HA3.out.trans s4
     obtain ⟨u,rfl⟩ := byte_of z z0 z1
     obtain ⟨hco,hfo,hg1,hg2⟩ := how4.at0 (i := q) hq
     have hset := how4.set0 (i := q) hq (.int .u8 (u.toNat : Int))
     have hB : Bytes w.heap.size wr.heap.size (w4.setCell ⟨g,q,none⟩ (.int .u8 (u.toNat : Int))) (some ⟨g,0,none⟩) l.length (l.set q u) := ⟨by simp,(hset.congr (fun i hi => by
      by_cases e : i = q
      ·subst e; rw [if_pos rfl]; simp [cellB,List.getD_eq_getElem?_getD,hi]
      ·rw [if_neg e,cellB,List.getD_eq_getElem?_getD,List.getD_eq_getElem?_getD,List.getElem?_set_ne (fun h => e h.symm)]; simp [hi,byteV])).reads⟩
     have hst := string_of (P := Tryd.prog) hB 22 9 5 cap' Tryd.underlying22 Tryd.underlying5 Tryd.underlying9
     have hcz : w4.cell? ⟨g,q,none⟩ = some (.int .u8 ((l.getD q 0).toNat : Int)) := by rw [hco]; simp [List.getD_eq_getElem?_getD,hq,byteV]
     clear hco
     have AA := hide (A4.set_new (q := q) hg1 (.int .u8 (u.toNat : Int)))
     have hcs := hide (c4.set_new (q := q) (g := g) (by omega) (.int .u8 (u.toNat : Int)))
     clear hB hset how4 A4 HOW3 HA3 s4
     go_wp2
     go_ret
     exact ⟨_,rfl,by rw [size_mk,List.length_set]; omega,hcs.out,AA.out⟩
theorem ownBytes_of {w : World} {base e n : Nat} {v : Value} {l : List UInt8} (h : w.ownsRow base e 1 v n (l.map byteV)) {lo : Nat} (hlo : lo <= base) :
  ∃ a cap,v = .slice a n cap ∧ n <= cap ∧ OwnBytes lo w.heap.size w a n l := by
 obtain ⟨a,cap,rfl,hcap,hlen,_,how⟩ := owned_of_own h
 rw [List.length_map] at hlen
 refine ⟨a,cap,rfl,hcap,hlen,how.1,fun hn => ?_⟩
 obtain ⟨b,off,e,h1,h2,h3⟩ := how.2 hn
 refine ⟨b,off,e,Nat.le_trans hlo h1,h2,fun i hi => ?_⟩
 obtain ⟨h4,h5⟩ := h3 i hi
 refine ⟨h4.trans ?_,h5⟩
 show some ((l.map byteV).getD i (.int .i64 0)) = some (cellB l i)
 rw [List.getD_eq_getElem?_getD]
 simp [show i < l.length by omega,byteV,cellB,List.getD_eq_getElem?_getD]
end Go.Proofs.YtdjifickdcnacaaDoor
end

section
namespace Go.Proofs.YtdjifickdcnacaaDoor
open Go.RowKit
set_option linter.unusedVariables false
set_option maxRecDepth 20000
def woveOk (s : ByteArray) (d : Int) : Bool := inB d 1 16 && decide (s.size <= 600)
end Go.Proofs.YtdjifickdcnacaaDoor
end

section
namespace Go.Proofs.YtdjifickdcnacaaDoor
open Go.RowKit
set_option linter.unusedVariables false
set_option maxRecDepth 20000
theorem step_append_own {P : Program} (w : World) {ops : Array Oper} {o : Oper} {a : Act} {K : Act -> World -> Prop} {Q : Exit -> Act -> World -> Prop} {E : Prop} (hgd : o.guard = none) (s x : Operand) (t : TypeId)
  (ho : o.op = .call { callee := .builtin .append,args := #[s,x],argTypes := #[t,t] })
  (base : Nat) (e : TypeId) (i : TypeInfo) (z : Value) (size bytes : Nat) (ht : P.underlying t = some (.slice e)) (hi : P.info? e = some i) (hz : i.zero = some z)
  (hsize : i.size = size) (hby : i.bytes = bytes) (hzs : z.cells.size = size) (hsz : 0 < size)
  (v : Value) (n : Nat) (xs : List Value) (hs : a.eval s = v) (hown : w.ownsRow base e size v n xs)
  (ad : Addr) (m c : Nat) (news : List Value) (hx : a.eval x = .slice (some ad) m c) (hl : news.length = m * size) (hnews : ∀ j u,news[j]? = some u -> w.cell? (ad.add j) = some u) (h1 : ∀ u ∈ news,u.oneCell' = true)
  (h63 : n + m <= maxLen) (hbytes : (n + m) * bytes <= 140737488355328) (hbase : base <= w.heap.size)
  (h : ∀ v' w',w'.ownsRow base e size v' (n + m) (xs ++ news) -> w.grownBy w' v.ownBlock -> K (a.put o.dst v') w') :
  if Region.wanted o (yielded ops a.tmps) = true then Oper.wp P o a w K Q else E := by
 have hw : Region.wanted o (yielded ops a.tmps) = true := by simp [Region.wanted,hgd]
 rw [if_pos hw]
 obtain ⟨v',w',hr,h2,h3,_,h5⟩ := run_append_own_at (P := P) w base t o.type e i z size bytes ht hi hz hsize hby hzs hsz v n xs hown ad m c news hl hnews h1 h63 hbytes hbase
 unfold Oper.wp execOp
 simp only [ho,resolve,invoke,builtin,Sem.run_bind,Sem.run_pure,Result.andThen_ok,List.map_toArray,List.map_cons,List.map_nil,hs,hx,hr]
 exact h v' w' h2 h3
theorem Owned.news {lo hi : Nat} {w : World} {b off n : Nat} {l : List UInt8} (h : Owned lo hi w (some ⟨b,off,none⟩) n (cellB l)) (hl : l.length = n) (k m : Nat) (hm : k + m <= n) :
  ∀ j u,(((l.drop k).take m).map byteV)[j]? = some u -> w.cell? ((⟨b,off + k,none⟩ : Addr).add j) = some u := by
 intro j u hu
 rw [List.getElem?_map,List.getElem?_take] at hu
 by_cases hj : j < m
 ·rw [if_pos hj,List.getElem?_drop] at hu
  obtain ⟨b',off',e,_,_,hc⟩ := h.2 (by omega)
  simp only [Option.some.injEq,Addr.mk.injEq,and_true] at e
  obtain ⟨rfl,rfl⟩ := e
  have hcell := (hc (k + j) (by omega)).1
  have hadd : (⟨b,off + k,none⟩ : Addr).add j = ⟨b,off + (k + j),none⟩ := by unfold Addr.add; simp [Nat.add_assoc]
  rw [hadd,hcell]
  rw [List.getElem?_eq_getElem (by omega)] at hu
  simp only [Option.map_some,Option.some.injEq] at hu
  rw [<- hu,cellB,List.getD_eq_getElem?_getD,List.getElem?_eq_getElem (by omega)]
  rfl
 ·rw [if_neg hj] at hu; simp at hu
theorem slice_rest {P : Program} (t e : TypeId) (ht : P.underlying t = some (.slice e)) (hs : ∀ w,(sizeOf e).run P w = .ok 1 w) (b off n cap k : Nat) (hk : k <= n) (hn : n <= cap) :
  ∃ ad : Addr,(ad = ⟨b,off + k,none⟩ ∨ n - k = 0) ∧ ∀ w,(Instr.sliceAt t (.slice (some ⟨b,off,none⟩) n cap) (some (.int .i64 (k : Int))) none none).run P w = .ok (.slice (some ad) (n - k) (cap - k)) w := by
 have he : P.elem t = e := by simp [Program.elem,ht]
 have ht' : P.underlying t = some (.slice (P.elem t)) := by rw [he]; exact ht
 by_cases h : cap = k
 ·refine ⟨⟨b,off,none⟩,.inr (by omega),fun w => ?_⟩
  rw [run_sliceAt_slice w t _ _ _ _ ht',run_slice_l (P := P) w t _ n cap ht' .i64 (k : Int) (by omega) (by omega),he,hs]
  simp [sliced,h,Result.andThen]
 ·refine ⟨⟨b,off + k,none⟩,.inl rfl,fun w => ?_⟩
  rw [run_sliceAt_slice w t _ _ _ _ ht',run_slice_l (P := P) w t _ n cap ht' .i64 (k : Int) (by omega) (by omega),he,hs]
  simp [sliced,h,Result.andThen,Addr.add]
theorem slice_first {P : Program} (t e : TypeId) (ht : P.underlying t = some (.slice e)) (hs : ∀ w,(sizeOf e).run P w = .ok 1 w) (b off n cap k : Nat) (hk : k <= n) (hn : n <= cap) :
  ∀ w,(Instr.sliceAt t (.slice (some ⟨b,off,none⟩) n cap) none (some (.int .i64 (k : Int))) none).run P w = .ok (.slice (some ⟨b,off,none⟩) k cap) w := by
 intro w
 have he : P.elem t = e := by simp [Program.elem,ht]
 have ht' : P.underlying t = some (.slice (P.elem t)) := by rw [he]; exact ht
 rw [run_sliceAt_slice w t _ _ _ _ ht',run_slice_h (P := P) w t _ n cap ht' .i64 (k : Int) (by omega) (by omega),he,hs]
 simp [sliced,Result.andThen,Addr.add]
theorem Owned.newsAt {lo hi : Nat} {w : World} {b off n : Nat} {l : List UInt8} (h : Owned lo hi w (some ⟨b,off,none⟩) n (cellB l)) (hl : l.length = n) (k : Nat) (hk : k <= n) {ad : Addr} (had : ad = ⟨b,off + k,none⟩ ∨ n - k = 0) :
  ∀ j u,(((l.drop k).take (n - k)).map byteV)[j]? = some u -> w.cell? (ad.add j) = some u := by
 rcases had with rfl | h0
 ·exact h.news hl k (n - k) (by omega)
 ·intro j u hu
  rw [h0] at hu
  simp at hu
theorem news_length (l : List UInt8) (k m n : Nat) (hl : l.length = n) (hm : k + m <= n) : (((l.drop k).take m).map byteV).length = m * 1 := by simp; omega
theorem news_one (l : List UInt8) : ∀ u ∈ l.map byteV,u.oneCell' = true := by
 intro u hu
 obtain ⟨c,_,rfl⟩ := List.mem_map.1 hu
 rfl
set_option maxRecDepth 100000 in
set_option maxHeartbeats 3200000 in
theorem bend_any (p : Nat) (s signs : ByteArray) (w : World) (hc : Cur w p) (hs : s.size <= 65536) (hg0 : 0 < signs.size) (hg1 : signs.size <= 65536) :
  Calls Tryd.prog 55 #[.pointer (some ⟨p,0,none⟩),.string s,.string signs] w fun e w' => ∃ t : ByteArray,e = .returned (.string t) ∧ t.size <= s.size + 2 ∧ Cur w' p ∧ Aside p (p + 1) w w' := by
 obtain ⟨i0,hi0,hz0,hz1,hz2⟩ := info_parts Tryd.infoU8d
 have hpl := hc.lt
 have hcv := run_bytes_of_string (P := Tryd.prog) w 9 22 5 s Tryd.underlying9 Tryd.underlying22 Tryd.underlying5
 obtain ⟨cap,hcap⟩ : ∃ c,c = grownCap w s.size 0 5 := ⟨_,rfl⟩
 have hge : s.size <= cap := by rw [hcap]; exact grownCap_ge w s.size 0 5
 rw [<- hcap] at hcv
 have HM := bytes_made w s 5 cap ((bytesRow s cap).size + 1)
 obtain ⟨C,hC⟩ : ∃ C,C = Obj.cells (bytesRow s cap) 5 ((bytesRow s cap).size,(bytesRow s cap).size + 1) := ⟨_,rfl⟩
 rw [<- hC] at hcv HM
 have HM' : Hid (OwnBytes w.heap.size (w.heap.size + 1) (w.alloc C).drew (some ⟨w.heap.size,0,none⟩) s.size s.data.toList) := ⟨by simp,HM⟩
 have HA0 : Hid (Aside p (p + 1) w (w.alloc C).drew) := ((Aside.refl p (p + 1) w).alloc C).drewN 1
 have hc0 : Cur (w.alloc C).drew p := (hc.alloc C).drewN 1
 clear HM hC hcap hc
 go_enter Tryd.func55,Tryd.ntmps55
 go_wp2_with fail
 refine (l1Below_any p 3 _ hc0 (by omega)).mono ?_
 rintro e w1 ⟨x,rfl,x0,x1,c1,s1⟩
 have HO1 := hide (HM'.out.2.aside s1 (.inr (by omega)))
 have HA1 := hide (HA0.out.trans s1)
 clear HM' HA0 s1 hcv hc0
 go_wp2_with fail
 go_loopw [7,8] (fun v i wr => ∃ (a : Option Addr) (n cap : Nat) (l : List UInt8) (k : Int),v = .slice a n cap ∧ n <= cap ∧ i = .int .i64 k ∧ 0 <= k ∧ k + n <= s.size + 2 ∧ OwnBytes w.heap.size wr.heap.size wr a n l ∧ Cur wr p ∧ Aside p (p + 1) w wr) (fun _ i _ => (intOf i).toNat)
 case atStart => exact ⟨_,_,_,s.data.toList,x,rfl,hge,rfl,x0,by omega,⟨by simp,HO1.out.wide HO1.out.1 (Nat.le_refl _)⟩,c1,HA1.out⟩
 case round =>
  obtain ⟨a,n,cp,l,k,rfl,hncap,rfl,k0,k1,hown,hcr,hA⟩ := hrel
  clear HO1 HA1
  have HOWN := hide hown
  have HA := hide hA
  clear hown hA
  by_cases hlt : 0 < k
  ·by_cases hn : 0 < n
   ·obtain ⟨b,off,rfl,hb1,hb2,_⟩ := HOWN.out.2.2 hn
    have hnz : (0 : Int) < (n : Int) := by omega
    go_wp2_with fail
    refine (l1Below_any p (n : Int) wr hcr (by omega)).mono ?_
    rintro e w2 ⟨y,rfl,y0,y1,c2,s2⟩
    obtain ⟨q,rfl⟩ := Int.eq_ofNat_of_zero_le y0
    have hq : q < n := by omega
    have HS2 := hide s2
    clear s2 y0 y1
    go_wp2_with fail
    refine (l1Below_any p 4 w2 c2 (by omega)).mono ?_
    rintro e w3 ⟨y,rfl,y0,y1,c3,s3⟩
    have HA3 := hide ((HA.out.trans HS2.out).trans s3)
    have HO3 := hide ((HOWN.out.2.aside HS2.out (.inr (by omega))).aside s3 (.inr (by omega)))
    have hl := hide HOWN.out.1
    have hsz3 := Nat.le_trans HS2.out.size s3.size
    clear HOWN HA HS2 s3 c2 hcr
    rcases (show y = 0 ∨ y = 1 ∨ y = 2 ∨ y = 3 by omega) with rfl | rfl | rfl | rfl
    ·go_wp2_with fail
     refine (l1Below_any p (signs.size : Int) w3 c3 (by omega)).mono ?_
     rintro e w4 ⟨z,rfl,z0,z1,c4,s4⟩
     obtain ⟨d,rfl⟩ := Int.eq_ofNat_of_zero_le z0
     have hd : d < signs.size := by omega
     have how4 := HO3.out.aside s4 (.inr (by omega))
     obtain ⟨b',off',e,_,_,hcl⟩ := how4.2 hn
     simp only [Option.some.injEq,Addr.mk.injEq,and_true] at e
     obtain ⟨rfl,rfl⟩ := e
     obtain ⟨hco,hfo⟩ := hcl q hq
     have HO4 := hide how4
     have HA4 := hide (HA3.out.trans s4)
     have hsz4 := hide (Nat.le_trans hsz3 s4.size)
     rw [cellB] at hco
     clear how4 s4 HO3 HA3 hcl c3
     go_wp2_with fail
     go_roundw
     case rel =>
      refine ⟨_,n,cp,l.set q signs[d],k - 1,rfl,hncap,by go_num,by omega,by omega,⟨by rw [List.length_set]; exact hl.out,?_⟩,c4.set_new (by omega) _,HA4.out.set_new (by omega) _⟩
      have hst := ((HO4.out.set hq (.int .u8 (signs[d].toNat : Int))).congr (fun i _ => cellB_set l q i signs[d] (by rw [hl.out]; exact hq)))
      exact hst.wide (by rw [Go.Deep.nblk_setCell]; exact hsz4.out) (Nat.le_refl _)
     case measure => simp [intOf]; omega
    ·go_wp2_with fail
     go_roundw
     case rel => exact ⟨_,q,cp,l.take q,k - 1,rfl,by omega,by go_num,by omega,by omega,⟨by rw [List.length_take,hl.out]; omega,((HO3.out.first (by omega)).congr (fun i hi => cellB_take l q i hi)).wide hsz3 (Nat.le_refl _)⟩,c3,HA3.out⟩
     case measure => simp [intOf]; omega
    ·have H0 := hide (own_made0 w3 5)
     have HB1 : Hid (Below w3.heap.size w3 (w3.alloc (.cells #[] 5)).drew) := ((Below.refl w3.heap.size w3).alloc (Nat.le_refl _) (.cells #[] 5)).drew
     have HN1 := hide ((HO3.out.later HB1.out (by omega)).news hl.out 0 q (by omega))
     obtain ⟨ad,had,hsl2⟩ := slice_rest (P := Tryd.prog) 22 5 Tryd.underlying22 (fun _ => by kernel_rfl) b off n cp (q + 1) (by omega) hncap
     have hsl1 := slice_first (P := Tryd.prog) 22 5 Tryd.underlying22 (fun _ => by kernel_rfl) b off n cp q (by omega) hncap
     have HAD := hide had
     have HN2 : ∀ w',Below w3.heap.size w3 w' -> Hid (∀ j u,(((l.drop (q + 1)).take (n - (q + 1))).map byteV)[j]? = some u -> w'.cell? (ad.add j) = some u) := fun w' hb => (HO3.out.later hb (by omega)).newsAt hl.out (q + 1) (by omega) HAD.out
     have i5 : n <= 65538 := by omega
     obtain ⟨r,hr⟩ : ∃ r,r = q + 1 := ⟨_,rfl⟩
     have i6 : IntKind.i64.wrap ((q : Int) + 1) = (r : Int) := by rw [IntKind.wrap_i64]; omega
     have hrn : r <= n := by omega
     have HR : Hid (r = q + 1) := hr
     rw [<- hr] at hsl2 HAD HN2
     clear had hr
     go_wp2_with fail
     go_region_held3 (fun _ => True) (trivial)
      (first
       | ((refine step_append_own _ (by rfl) _ _ _ (by rfl) w3.heap.size 5 i0 (.int .u8 0) 1 1 Tryd.underlying22 hi0 hz0 hz1 hz2 rfl (by decide) _ 0 [] (by rfl) H0.out ⟨b,off,none⟩ q cp (((l.drop 0).take q).map byteV) (by rfl) (news_length l 0 q n hl.out (by omega)) HN1.out (news_one _) (by unfold maxLen; omega) (by omega) HB1.out.size ?_; intro v1 w4 hown1 hgrow1))
       | ((refine step_append_own _ (by rfl) _ _ _ (by rfl) w3.heap.size 5 i0 (.int .u8 0) 1 1 Tryd.underlying22 hi0 hz0 hz1 hz2 rfl (by decide) v1 _ _ (by rfl) hown1 ad (n - r) (cp - r) (((l.drop r).take (n - r)).map byteV) (by rfl) (news_length l r (n - r) n hl.out (by omega)) (HN2 w4 (HB1.out.grown hgrow1 HB1.out.size (fun k hk => (H0.out.lt k hk).1))).out (news_one _) (by unfold maxLen; omega) (by omega) (Nat.le_trans HB1.out.size hgrow1.size) ?_; intro v2 w5 hown2 hgrow2)))
     have hB5 := (HB1.out.grown hgrow1 HB1.out.size (fun k hk => (H0.out.lt k hk).1))
     have hB6 := hide (hB5.grown hgrow2 hB5.size (fun k hk => (hown1.lt k hk).1))
     have hap : [] ++ ((l.drop 0).take q).map byteV ++ ((l.drop r).take (n - r)).map byteV = (((l.drop 0).take q) ++ ((l.drop r).take (n - r))).map byteV := by simp
     rw [hap] at hown2
     obtain ⟨a',cap',rfl,hcap',hown'⟩ := ownBytes_of hown2 (lo := w.heap.size) (by omega)
     have HOWN' := hide hown'
     clear hown2 hown' hown1 hap hB5 hgrow1 hgrow2 HN1 HN2 hsl1 hsl2 H0 HB1
     go_wp2_with fail
     go_roundw
     case rel => exact ⟨a',_,cap',_,k - 1,rfl,hcap',by go_num,by omega,by have := HR.out; omega,HOWN'.out,c3.below hB6.out c3.lt,HA3.out.trans (aside_of_below hB6.out)⟩
     case measure => simp [intOf]; omega
    ·have H0 := hide (own_made0 w3 5)
     have HB1 : Hid (Below w3.heap.size w3 (w3.alloc (.cells #[] 5)).drew) := ((Below.refl w3.heap.size w3).alloc (Nat.le_refl _) (.cells #[] 5)).drew
     have HN1 := hide ((HO3.out.later HB1.out (by omega)).news hl.out 0 q (by omega))
     obtain ⟨ad,had,hsl2⟩ := slice_rest (P := Tryd.prog) 22 5 Tryd.underlying22 (fun _ => by kernel_rfl) b off n cp q (by omega) hncap
     have hsl1 := slice_first (P := Tryd.prog) 22 5 Tryd.underlying22 (fun _ => by kernel_rfl) b off n cp q (by omega) hncap
     have HAD := hide had
     have HN2 : ∀ w',Aside p (p + 1) w3 w' -> Hid (∀ j u,(((l.drop q).take (n - q)).map byteV)[j]? = some u -> w'.cell? (ad.add j) = some u) := fun w' hb => (HO3.out.aside hb (.inr (by omega))).newsAt hl.out q (by omega) HAD.out
     have i5 : n <= 65538 := by omega
     clear had
     go_wp2_with fail
     go_region_held3 (fun w' => Cur w' p) (first | assumption | (exact Cur.alloc (by assumption) _) | (exact Cur.drewN (by assumption) 1) | (exact Cur.drewN (Cur.alloc (by assumption) _) 1) | (exact Cur.grown (by assumption) hgrow3 (fun k hk => by have := (hown2.lt k hk).1; omega)) | (exact Cur.grown (by assumption) hgrow2 (fun k hk => by have := (hown1.lt k hk).1; omega)) | (exact Cur.grown (by assumption) hgrow1 (fun k hk => by have := (H0.out.lt k hk).1; omega)))
      (first
       | ((go_at_call 75; refine (l1Below_any p (signs.size : Int) _ (by assumption) (by omega)).mono ?_; rintro e w5 ⟨z,rfl,z0,z1,c5,s5⟩))
       | ((refine step_append_own _ (by rfl) _ _ _ (by rfl) w3.heap.size 5 i0 (.int .u8 0) 1 1 Tryd.underlying22 hi0 hz0 hz1 hz2 rfl (by decide) _ 0 [] (by rfl) H0.out ⟨b,off,none⟩ q cp (((l.drop 0).take q).map byteV) (by rfl) (news_length l 0 q n hl.out (by omega)) HN1.out (news_one _) (by unfold maxLen; omega) (by omega) HB1.out.size ?_; intro v1 w4 hown1 hgrow1))
       | ((refine step_append_own _ (by rfl) _ _ _ (by rfl) w3.heap.size 5 i0 (.int .u8 0) 1 1 Tryd.underlying22 hi0 hz0 hz1 hz2 rfl (by decide) v1 _ _ (by rfl) ((own_aside hown1 s5 (by omega)).alloc _) ⟨w5.heap.size,0,none⟩ 1 1 [.int .u8 ((signs[z.toNat]'(by omega)).toNat : Int)] (by rfl) rfl (cell_one_new _ _ _) (byteV_one _) (by unfold maxLen; omega) (by omega) (Nat.le_trans HB1.out.size (Nat.le_trans hgrow1.size (Nat.le_trans s5.size (by simp)))) ?_; intro v2 w6 hown2 hgrow2))
       | ((refine step_append_own _ (by rfl) _ _ _ (by rfl) w3.heap.size 5 i0 (.int .u8 0) 1 1 Tryd.underlying22 hi0 hz0 hz1 hz2 rfl (by decide) v2 _ _ (by rfl) hown2 ad (n - q) (cp - q) (((l.drop q).take (n - q)).map byteV) (by rfl) (news_length l q (n - q) n hl.out (by omega)) (HN2 w6 ((((aside_of_below (HB1.out.grown hgrow1 HB1.out.size (fun k hk => (H0.out.lt k hk).1))).trans s5).alloc _).grown hgrow2 (fun k hk => (hown1.lt k hk).1))).out (news_one _) (by unfold maxLen; omega) (by omega) (Nat.le_trans HB1.out.size (Nat.le_trans hgrow1.size (Nat.le_trans s5.size (Nat.le_trans (by simp) hgrow2.size)))) ?_; intro v3 w7 hown3 hgrow3)))
     have hA6 := (((aside_of_below (lo := p) (hi := p + 1) (HB1.out.grown hgrow1 HB1.out.size (fun k hk => (H0.out.lt k hk).1))).trans s5).alloc _).grown hgrow2 (fun k hk => (hown1.lt k hk).1)
     have hA7 := hide (hA6.grown hgrow3 (fun k hk => (hown2.lt k hk).1))
     have hap : [] ++ ((l.drop 0).take q).map byteV ++ [.int .u8 ((signs[z.toNat]'(by omega)).toNat : Int)] ++ ((l.drop q).take (n - q)).map byteV = (((l.drop 0).take q) ++ [signs[z.toNat]'(by omega)] ++ ((l.drop q).take (n - q))).map byteV := by simp [byteV]
     rw [hap] at hown3
     obtain ⟨a',cap',rfl,hcap',hown'⟩ := ownBytes_of hown3 (lo := w.heap.size) (by omega)
     have HOWN' := hide hown'
     clear hown3 hown2 hown' hown1 hap hA6 hgrow1 hgrow2 hgrow3 HN1 HN2 hsl1 hsl2 H0 HB1 s5
     go_wp2_with fail
     go_roundw
     case rel => exact ⟨a',_,cap',_,k - 1,rfl,hcap',by go_num,by omega,by omega,HOWN'.out,by assumption,HA3.out.trans hA7.out⟩
     case measure => simp [intOf]; omega
   ·obtain rfl : n = 0 := by omega
    have hst := string_of (P := Tryd.prog) (lo := w.heap.size) (hi := wr.heap.size) (w := wr) (a := a) (n := 0) (l := l) ⟨HOWN.out.1,HOWN.out.2.reads⟩ 22 9 5 cp Tryd.underlying22 Tryd.underlying5 Tryd.underlying9
    go_wp2_with fail
    go_ret
    exact ⟨_,rfl,by rw [size_mk,HOWN.out.1]; omega,hcr,HA.out⟩
  ·have hst := string_of (P := Tryd.prog) (lo := w.heap.size) (hi := wr.heap.size) (w := wr) (a := a) (n := n) (l := l) ⟨HOWN.out.1,HOWN.out.2.reads⟩ 22 9 5 cp Tryd.underlying22 Tryd.underlying5 Tryd.underlying9
   go_wp2_with fail
   go_ret
   exact ⟨_,rfl,by rw [size_mk,HOWN.out.1]; omega,hcr,HA.out⟩
end Go.Proofs.YtdjifickdcnacaaDoor
end

section
namespace Go.Proofs.YtdjifickdcnacaaDoor
open Go.RowKit
set_option linter.unusedVariables false
set_option maxRecDepth 20000
theorem Tryd.infoU8y : (Tryd.prog.info? 5).map (fun i => (i.zero,i.size,i.bytes)) = some (some (.int .u8 0),1,1) := by kernel_rfl
set_option maxHeartbeats 800000 in
theorem specl1Bytes_all (a : Option Addr) (n cap : Nat) (xs : List Int) (w : World) {lo hi : Nat} (h : Ints lo hi w a n xs) (hn : n <= 8388608) (hall : xs.all bit = true) :
  Calls Tryd.prog 67 #[.slice a n cap] w fun e w' => e = .returned (.string (str (byteL xs))) ∧ Below w.heap.size w w' := by
 have hI := h
 obtain ⟨hl,hsz,hx⟩ := h
 have HL : Hid (xs.length = n) := hl
 clear hl
 obtain ⟨N,hN⟩ : ∃ N,N = (n + 7) / 8 := ⟨_,rfl⟩
 have n1 : 8 * N <= n + 7 := by omega
 have n2 : n <= 8 * N := by omega
 have hmk := make_row (P := Tryd.prog) 22 5 (.int .u8 0) 1 Tryd.underlying22 Tryd.infoU8y rfl (((n : Int) + 7) / 8) (((n : Int) + 7) / 8) N N (by omega) (by omega) (by omega) (by omega) (by omega)
 have HN := hide hN
 have HALL := hide hall
 clear hN hall
 go_enter Tryd.func67,Tryd.ntmps67
 go_wp2
 go_loopw [4] (fun i wr => ∃ k : Nat,k <= n ∧ i = .int .i64 k ∧ wr.rowIs w.heap.size 5 N (fun i => .int .u8 (jn (eight (xs.take k) (8 * i)))) ∧ Below w.heap.size w wr) (fun i _ => n - (intOf i).toNat)
 case atStart => exact ⟨0,Nat.zero_le _,rfl,(World.rowIs_made w (.int .u8 0) N 5).congr (fun _ _ => by simp [eight,jn]),(Below.refl _ _).alloc (Nat.le_refl _) _⟩
 case round =>
  obtain ⟨k,hk,rfl,hrow,hbel⟩ := hrel
  by_cases hlt : k < n
  ·obtain ⟨b,off,rfl,_,hb,hc⟩ := hx (by omega)
   have hck : wr.cell? ⟨b,off + k,none⟩ = some (.int .i64 (xs.getD k 0)) := (hbel.cell (p := ⟨b,off + k,none⟩) (by show b < _; omega)).trans (hc k hlt)
   have hbit := bit_at HALL.out k
   clear hc hx
   obtain ⟨z,hz⟩ : ∃ z,z = xs.getD k 0 := ⟨_,rfl⟩
   rw [<- hz] at hck hbit
   have HZ := hide hz
   have HROW := hide hrow
   have HB := hide hbel
   have hco := hrow.cell (i := k / 8) (by omega)
   have hfo := hrow.frozen (k / 8)
   have hd : (0 : Int) <= (k : Int) / 8 := by omega
   have hd2 : (k : Int) / 8 < N := by omega
   have hone := byte_one HALL.out k
   rw [<- hz] at hone
   have hbd := jn8_bd (take_all HALL.out k) (8 * (k / 8))
   obtain ⟨c,hc0⟩ : ∃ c,c = jn (eight (xs.take k) (8 * (k / 8))) := ⟨_,rfl⟩
   rw [<- hc0] at hco hone hbd
   obtain ⟨c0,c1⟩ := hbd
   have HONE := hide hone
   clear hz hrow hbel hone hc0
   rcases (show z = 0 ∨ z = 1 by simp [bit] at hbit; omega) with rfl | rfl
   ·go_wp2
    go_roundw
    case rel => exact ⟨k + 1,by omega,by go_num,HROW.out.congr (fun i _ => by rw [byte_zero xs k i HZ.out.symm]),HB.out⟩
    case measure => simp [intOf]; omega
   ·go_wp2
    go_roundw
    case rel => exact ⟨k + 1,by omega,by go_num,(HROW.out.set (k / 8) _).congr (fun i _ => by
      by_cases e : i = k / 8
      ·subst e; simp only [if_true]; rw [HONE.out rfl]
      ·simp only [if_neg e]; rw [byte_other xs k i e]),HB.out.setCell (p := ⟨w.heap.size,k / 8,none⟩) (Nat.le_refl _) _⟩
    case measure => simp [intOf]; omega
  ·have hkn : k = n := by omega
   subst hkn
   have hB : Bytes w.heap.size wr.heap.size wr (some ⟨w.heap.size,0,none⟩) N (byteL xs) :=
    ⟨by rw [byteL_length,HL.out,<- HN.out],((owned_of_row hrow (Nat.le_refl _) hrow.lt (Nat.le_refl _)).congr (fun i hi => by
     rw [List.take_of_length_le (by rw [HL.out]; omega)]
     exact byte_cell HALL.out i (by rw [HL.out,<- HN.out]; exact hi))).reads⟩
   have hst := string_of (P := Tryd.prog) hB 22 9 5 N Tryd.underlying22 Tryd.underlying5 Tryd.underlying9
   clear hB hrow
   go_wp2
   go_ret
   exact ⟨ret_str rfl,hbel⟩
end Go.Proofs.YtdjifickdcnacaaDoor
end

