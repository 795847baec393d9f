/- Several texts in one: DrawBase, DrawText. -/
import Derived.Test.YtfogmdnkpkofiaaRows
import Derived.Test.YtfogmdnkpkofiaaRBytesBase
import Derived.Test.YtfogmdnkpkofiaaRCopyBase
import Derived.Deep.QuietTactic
import Derived.BigQuiet
import Derived.Maps.AppendAt
section
namespace Go.Proofs.Ytfogmdnkpkofiaa
open Go.RowKit
set_option linter.unusedVariables false
set_option maxRecDepth 20000
theorem i64_and255 (n : Int) : bits .and .i64 n 255 = n % 256 := by
 have h255 : (BitVec.ofInt 64 255).toNat = 2 ^ 8 - 1 := by decide
 have key : (BitVec.ofInt 64 n &&& BitVec.ofInt 64 255).toNat = (n % ((2 ^ 64 : Nat) : Int)).toNat % 2 ^ 8 := by
  rw [BitVec.toNat_and,BitVec.toNat_ofInt,h255,Nat.and_two_pow_sub_one_eq_mod]
 show IntKind.i64.wrap ((BitVec.ofInt 64 n &&& BitVec.ofInt 64 255).toNat : Nat) = n % 256
 rw [key,IntKind.wrap_i64]
 omega
theorem Bytes.later {lo hi : Nat} {w w' : World} {a : Option Addr} {n : Nat} {l : List UInt8} (h : Bytes lo hi w a n l) {B : Nat} (hb : Below B w w') (hB : hi <= B) : Bytes lo hi w' a n l := ⟨h.1,h.2.later hb hB⟩
theorem Bytes.aside {lo hi : Nat} {w w' : World} {a : Option Addr} {n : Nat} {l : List UInt8} (h : Bytes lo hi w a n l) {x r : Nat} (hb : Aside x r w w') (hB : hi <= x ∨ r <= lo) : Bytes lo hi w' a n l := ⟨h.1,h.2.aside hb hB⟩
def cur3 (a : Option Addr) (n cap i : Nat) (h : Int) (j : Nat) : Value := if j = 0 then .slice a n cap else if j = 1 then .int .i64 (i : Nat) else .int .i64 h
def Cur (w : World) (p : Nat) : Prop := ∃ lo hi a n cap l i h,Bytes lo hi w a n l ∧ hi <= p ∧ n <= 4096 ∧ i <= n ∧ w.rowIs p 75 3 (cur3 a n cap i h)
theorem Cur.lt {w : World} {p : Nat} (h : Cur w p) : p < w.heap.size := by obtain ⟨_,_,_,_,_,_,_,_,_,_,_,_,h⟩ := h; exact h.lt
theorem Cur.below {w w' : World} {p : Nat} (h : Cur w p) {B : Nat} (hb : Below B w w') (hB : p < B) : Cur w' p := by
 obtain ⟨lo,hi,a,n,cap,l,i,hh,h1,h2,h3,h4,h5⟩ := h
 exact ⟨lo,hi,a,n,cap,l,i,hh,h1.later hb (by omega),h2,h3,h4,h5.of_block (hb.block p hB)⟩
theorem Cur.aside {w w' : World} {p : Nat} (h : Cur w p) {x r : Nat} (hb : Aside x r w w') (hB : p < x) : Cur w' p := by
 obtain ⟨lo,hi,a,n,cap,l,i,hh,h1,h2,h3,h4,h5⟩ := h
 exact ⟨lo,hi,a,n,cap,l,i,hh,h1.aside hb (.inl (by omega)),h2,h3,h4,h5.of_block (hb.block p h5.lt (.inl hB))⟩
theorem Cur.drewN {w : World} {p : Nat} (h : Cur w p) (k : Nat) : Cur (w.drewN k) p := h
theorem Aside.drewN {lo hi : Nat} {a w : World} (h : Aside lo hi a w) (k : Nat) : Aside lo hi a (w.drewN k) := h.trans ⟨rfl,rfl,rfl,Nat.le_refl _,fun _ _ _ => rfl⟩
theorem and255_lo (n : Int) : 0 <= bits .and .i64 n 255 := by rw [i64_and255]; omega
theorem and255_hi (n : Int) : bits .and .i64 n 255 <= 255 := by rw [i64_and255]; omega
theorem cur_step0 {w : World} {p lo hi n cap i : Nat} {a : Option Addr} {l : List UInt8} {h : Int} (hB : Bytes lo hi w a n l) (hp : hi <= p) (hn : n <= 4096) (hi' : i <= n) (hrow : w.rowIs p 75 3 (cur3 a n cap i h)) (H : Int) (k k' : Nat) :
  Cur (((w.setCell ⟨p,2,none⟩ (.int .i64 H)).drewN k).drewN k') p ∧ Aside p (p + 1) w (((w.setCell ⟨p,2,none⟩ (.int .i64 H)).drewN k).drewN k') := by
 have hA : Aside p (p + 1) w (w.setCell ⟨p,2,none⟩ (.int .i64 H)) := (Aside.refl p (p + 1) w).setCell (p := ⟨p,2,none⟩) (Nat.le_refl _) (Nat.lt_succ_self _) _
 have hR := (hrow.set 2 (.int .i64 H)).congr (g := cur3 a n cap i H) (fun j hj => by
  match j,hj with
  | 0,_ | 1,_ | 2,_ => rfl)
 have hC : Cur (w.setCell ⟨p,2,none⟩ (.int .i64 H)) p := ⟨lo,hi,a,n,cap,l,i,H,hB.aside hA (.inl hp),hp,hn,hi',hR⟩
 exact ⟨hC,(hA.drewN k).drewN k'⟩
theorem cur_step1 {w : World} {p lo hi n cap i : Nat} {a : Option Addr} {l : List UInt8} {h : Int} (hB : Bytes lo hi w a n l) (hp : hi <= p) (hn : n <= 4096) (hi' : i < n) (hrow : w.rowIs p 75 3 (cur3 a n cap i h)) (H : Int) (k : Nat) :
  Cur (((w.setCell ⟨p,2,none⟩ (.int .i64 H)).drewN k).setCell ⟨p,1,none⟩ (.int .i64 ((i : Int) + 1))) p ∧ Aside p (p + 1) w (((w.setCell ⟨p,2,none⟩ (.int .i64 H)).drewN k).setCell ⟨p,1,none⟩ (.int .i64 ((i : Int) + 1))) := by
 have hA0 : Aside p (p + 1) w ((w.setCell ⟨p,2,none⟩ (.int .i64 H)).drewN k) := ((Aside.refl p (p + 1) w).setCell (p := ⟨p,2,none⟩) (Nat.le_refl _) (Nat.lt_succ_self _) _).drewN k
 have hA := hA0.setCell (p := ⟨p,1,none⟩) (Nat.le_refl _) (Nat.lt_succ_self _) (.int .i64 ((i : Int) + 1))
 have hR0 : ((w.setCell ⟨p,2,none⟩ (.int .i64 H)).drewN k).rowIs p 75 3 _ := hrow.set 2 (.int .i64 H)
 have hR := (hR0.set 1 (.int .i64 ((i : Int) + 1))).congr (g := cur3 a n cap (i + 1) H) (fun j hj => by
  match j,hj with
  | 0,_ | 1,_ | 2,_ => rfl)
 exact ⟨⟨lo,hi,a,n,cap,l,i + 1,H,hB.aside hA (.inl hp),hp,hn,by omega,hR⟩,hA⟩
set_option maxHeartbeats 1600000 in
theorem l1Byte_any (p : Nat) (w : World) (hc : Cur w p) :
  Calls Try.prog 67 #[.pointer (some ⟨p,0,none⟩)] w fun e w' => ∃ x : Int,e = .returned (.int .i64 x) ∧ 0 <= x ∧ x <= 255 ∧ Cur w' p ∧ Aside p (p + 1) w w' := by
 obtain ⟨lo,hi,a,n,cap,l,i,h,hB,hp,hn,hi',hrow⟩ := hc
 have c0 : w.cell? ⟨p,0,none⟩ = some (.slice a n cap) := hrow.cell (i := 0) (by omega)
 have c1 : w.cell? ⟨p,1,none⟩ = some (.int .i64 (i : Nat)) := hrow.cell (i := 1) (by omega)
 have c2 : w.cell? ⟨p,2,none⟩ = some (.int .i64 h) := hrow.cell (i := 2) (by omega)
 have f0 := hrow.frozen
 by_cases hlt : i < n
 ·obtain ⟨b,off,rfl,_,hb,hcell⟩ := hB.2.2 (by omega)
  have hcb : w.cell? ⟨b,off + i,none⟩ = some (.int .u8 ((l.getD i 0).toNat : Int)) := hcell i hlt
  have hne : b ≠ p := by omega
  have hcb' : (w.setCell ⟨p,2,none⟩ (.int .i64 (wrap64 (wrap64 (h * 6364136223846793005) + 1442695040888963407)))).cell? ⟨b,off + i,none⟩ = some (.int .u8 ((l.getD i 0).toNat : Int)) := by
   rw [World.cell?_setCell_other _ _ _ _ (by intro e; simp only [Addr.mk.injEq] at e; omega)]; exact hcb
  have HB := hide hB
  have HR := hide hrow
  clear hB hrow hcell
  go_enter Try.func67,Try.ntmps67
  go_wp2
  go_quiet (fail)
  go_wp2
  go_quiet (fail)
  go_wp2
  go_quiet (fail)
  go_wp2
  go_ret
  have hst := cur_step1 HB.out hp hn hlt HR.out (wrap64 (wrap64 (h * 6364136223846793005) + 1442695040888963407))
  exact ⟨_,rfl,and255_lo _,and255_hi _,(hst _).1,(hst _).2⟩
 ·have HB := hide hB
  have HR := hide hrow
  clear hB hrow
  go_enter Try.func67,Try.ntmps67
  go_wp2
  go_quiet (fail)
  go_wp2
  go_quiet (fail)
  go_wp2
  go_ret
  have hst := cur_step0 HB.out hp hn hi' HR.out (wrap64 (wrap64 (h * 6364136223846793005) + 1442695040888963407))
  exact ⟨_,rfl,and255_lo _,and255_hi _,(hst _ _).1,(hst _ _).2⟩
set_option maxHeartbeats 800000 in
theorem l1Below_any (p : Nat) (n : Int) (w : World) (hc : Cur w p) (hn : n <= 4294967296) :
  Calls Try.prog 51 #[.pointer (some ⟨p,0,none⟩),.int .i64 n] w fun e w' => ∃ x : Int,e = .returned (.int .i64 x) ∧ 0 <= x ∧ (x < n ∨ x = 0) ∧ Cur w' p ∧ Aside p (p + 1) w w' := by
 by_cases h0 : n <= 0
 ·go_enter Try.func51,Try.ntmps51
  go_wp2
  go_ret
  exact ⟨_,rfl,Int.le_refl _,.inr rfl,hc,Aside.refl _ _ _⟩
 ·have hne : (n == 0) = false := by simp; omega
  have hnp : 0 < n := by omega
  by_cases h1 : n <= 256
  ·go_enter Try.func51,Try.ntmps51
   go_wp2_with fail
   refine (l1Byte_any p w hc).mono ?_
   rintro e w1 ⟨x,rfl,x0,x1,c1,s1⟩
   go_wp2_with fail
   go_ret
   exact ⟨_,rfl,Int.emod_nonneg _ (by omega),.inl (Int.emod_lt_of_pos _ hnp),c1,s1⟩
  ·go_enter Try.func51,Try.ntmps51
   go_wp2_with fail
   refine (l1Byte_any p w hc).mono ?_
   rintro e w1 ⟨x,rfl,x0,x1,c1,s1⟩
   go_wp2_with fail
   refine (l1Byte_any p w1 c1).mono ?_
   rintro e w2 ⟨y,rfl,y0,y1,c2,s2⟩
   go_wp2_with fail
   refine (l1Byte_any p w2 c2).mono ?_
   rintro e w3 ⟨z,rfl,z0,z1,c3,s3⟩
   go_wp2_with fail
   refine (l1Byte_any p w3 c3).mono ?_
   rintro e w4 ⟨u,rfl,u0,u1,c4,s4⟩
   go_wp2_with fail
   go_ret
   exact ⟨_,rfl,Int.emod_nonneg _ (by omega),.inl (Int.emod_lt_of_pos _ hnp),c4,((s1.trans s2).trans s3).trans s4⟩
set_option maxHeartbeats 400000 in
theorem l1Once_any (p : Nat) (n : Int) (w : World) (hc : Cur w p) (hn : n <= 4294967296) :
  Calls Try.prog 50 #[.pointer (some ⟨p,0,none⟩),.int .i64 n] w fun e w' => ∃ b : Bool,e = .returned (.bool b) ∧ Cur w' p ∧ Aside p (p + 1) w w' := by
 go_enter Try.func50,Try.ntmps50
 go_wp2_with fail
 refine (l1Below_any p n w hc hn).mono ?_
 rintro e w1 ⟨x,rfl,_,_,c1,s1⟩
 go_wp2_with fail
 go_ret
 exact ⟨_,rfl,c1,s1⟩
theorem Aside.grown {lo hi : Nat} {a w w' : World} {row : Option Nat} (h : Aside lo hi a w) (hg : w.grownBy w' row) (hr : ∀ k,row = some k -> a.heap.size <= k) : Aside lo hi a w' :=
 ⟨hg.os.trans h.os,hg.tape.trans h.tape,hg.output.trans h.output,Nat.le_trans h.size hg.size,fun k hk hk' => by
  refine (hg.block k (Nat.lt_of_lt_of_le hk h.size) (fun e => ?_)).trans (h.block k hk hk')
  have := hr k e.symm
  omega⟩
theorem Aside.alloc {lo hi : Nat} {a w : World} (h : Aside lo hi a w) (o : Obj) : Aside lo hi a (w.alloc o) :=
 h.trans ⟨rfl,rfl,rfl,by show _ <= (w.heap.push o).size; simp,fun k hk _ => Go.Deep.blk_alloc_lt _ _ _ hk⟩
theorem Cur.alloc {w : World} {p : Nat} (h : Cur w p) (o : Obj) : Cur (w.alloc o) p := h.below ((Below.refl w.heap.size w).alloc (Nat.le_refl _) o) h.lt
theorem Cur.grown {w w' : World} {p : Nat} (h : Cur w p) {row : Option Nat} (hg : w.grownBy w' row) (hr : ∀ k,row = some k -> p < k) : Cur w' p := by
 obtain ⟨lo,hi,a,n,cap,l,i,hh,h1,h2,h3,h4,h5⟩ := h
 have hlt := h5.lt
 refine ⟨lo,hi,a,n,cap,l,i,hh,⟨h1.1,h1.2.of hg.size (fun k _ hk => hg.block k (by omega) (fun e => ?_))⟩,h2,h3,h4,h5.of_block (hg.block p hlt (fun e => ?_))⟩
 ·have := hr k e.symm; omega
 ·have := hr p e.symm; omega
set_option maxHeartbeats 800000 in
theorem l1New_any (a : Option Addr) (n cap : Nat) (l : List UInt8) (w : World) {lo hi : Nat} (hB : Bytes lo hi w a n l) (hn : n <= 4096) :
  Calls Try.prog 25 #[.slice a n cap] w fun e w' => ∃ p,e = .returned (.pointer (some ⟨p,0,none⟩)) ∧ w.heap.size <= p ∧ Cur w' p ∧ Below w.heap.size w w' := by
 have hI := hide hB
 obtain ⟨hl,hsz,hx⟩ := hB
 clear hl
 go_enter Try.func25,Try.ntmps25
 go_wp2
 go_loop [3,4] (fun t i => ∃ (k : Nat) (h : Int),k <= n ∧ i = .int .i64 k ∧ t = .int .i64 h) (fun _ i => n - (intOf i).toNat)
 case atStart => exact ⟨0,_,Nat.zero_le _,rfl,rfl⟩
 case round =>
  obtain ⟨k,h,hk,rfl,rfl⟩ := hrel
  by_cases hlt : k < n
  ·obtain ⟨b,off,rfl,_,hb,hc⟩ := hx (by omega)
   have hck : w.cell? ⟨b,off + k,none⟩ = some (.int .u8 ((l.getD k 0).toNat : Int)) := hc k hlt
   clear hc hx
   go_wp2
   go_round
   case rel => exact ⟨k + 1,_,by omega,by go_num,rfl⟩
   case measure => simp [intOf]; omega
  ·go_wp2
   go_ret
   have bel := (Below.refl w.heap.size w).alloc (Nat.le_refl _) (.cells #[.slice a n cap,.int .i64 0,.int .i64 h] 75)
   exact ⟨_,rfl,Nat.le_refl _,⟨lo,hi,a,n,cap,l,0,h,hI.out.later bel hsz,hsz,hn,Nat.zero_le _,World.rowIs_alloc w _ 75 _ (fun i hi => by
    match i,hi with
    | 0,_ | 1,_ | 2,_ => rfl)⟩,bel⟩
theorem own_aside {w w' : World} {base e n : Nat} {v : Value} {xs : List Value} (h : w.ownsRow base e 1 v n xs) {l r : Nat} (hb : Aside l r w w') (hr : r <= base) : w'.ownsRow base e 1 v n xs := by
 obtain ⟨h1,h2⟩ := h
 refine ⟨h1,?_⟩
 rcases h2 with hn | ⟨g,cap,cur,rfl,hbg,hgg,rest⟩
 ·exact .inl hn
 ·exact .inr ⟨g,cap,cur,rfl,hbg,(hb.block g (Array.getElem?_eq_some_iff.1 hgg).1 (.inr (by omega))).trans hgg,rest⟩
theorem Cur.set_new {w : World} {p : Nat} (h : Cur w p) {g q : Nat} (hg : p < g) (v : Value) : Cur (w.setCell ⟨g,q,none⟩ v) p :=
 h.aside ((Aside.refl g (g + 1) w).setCell (p := ⟨g,q,none⟩) (Nat.le_refl _) (Nat.lt_succ_self _) v) hg
theorem Aside.set_new {lo hi : Nat} {a w : World} (h : Aside lo hi a w) {g q : Nat} (hg : a.heap.size <= g) (v : Value) : Aside lo hi a (w.setCell ⟨g,q,none⟩ v) :=
 ⟨h.os,h.tape,h.output,by rw [Go.Deep.nblk_setCell]; exact h.size,fun k hk hk' => (Go.Deep.blk_setCell_other _ _ _ _ (by show k ≠ g; omega)).trans (h.block k hk hk')⟩
theorem Owned.wide {lo hi : Nat} {w : World} {a : Option Addr} {n : Nat} {f : Nat -> Value} (h : Owned lo hi w a n f) {hi' : Nat} (h1 : hi <= hi') (h2 : hi' <= w.heap.size) : Owned lo hi' w a n f :=
 ⟨h2,fun hn => by
  obtain ⟨b,off,e,q1,q2,q3⟩ := h.2 hn
  exact ⟨b,off,e,q1,Nat.lt_of_lt_of_le q2 h1,q3⟩⟩
theorem Owned.first {lo hi : Nat} {w : World} {a : Option Addr} {n : Nat} {f : Nat -> Value} (h : Owned lo hi w a n f) {m : Nat} (hm : m <= n) : Owned lo hi w a m f :=
 ⟨h.1,fun hn => by
  obtain ⟨b,off,e,q1,q2,q3⟩ := h.2 (by omega)
  exact ⟨b,off,e,q1,q2,fun i hi => q3 i (by omega)⟩⟩
theorem aside_of_below {w w' : World} {lo hi : Nat} (h : Below w.heap.size w w') : Aside lo hi w w' := ⟨h.os,h.tape,h.output,h.size,fun k hk _ => h.block k hk⟩
end Go.Proofs.Ytfogmdnkpkofiaa
end

section
namespace Go.Proofs.Ytfogmdnkpkofiaa
open Go.RowKit
set_option linter.unusedVariables false
set_option maxRecDepth 20000
theorem Try.infoU8d : (Try.prog.info? 5).map (fun i => (i.zero,i.size,i.bytes)) = some (some (.int .u8 0),1,1) := by kernel_rfl
def byteV (b : UInt8) : Value := .int .u8 (b.toNat : Int)
theorem byte_of (x : Int) (h0 : 0 <= x) (h1 : x <= 255) : ∃ u : UInt8,x = (u.toNat : Int) := by
 refine ⟨UInt8.ofNat x.toNat,?_⟩
 rw [UInt8.toNat_ofNat']
 omega
theorem byteV_one (b : UInt8) : ∀ u ∈ [byteV b],u.oneCell' = true := by intro u hu; simp at hu; subst hu; rfl
theorem size_mk (l : List UInt8) : (⟨l.toArray⟩ : ByteArray).size = l.length := rfl
set_option maxHeartbeats 1600000 in
theorem drawText_any (p : Nat) (m : Int) (w : World) (hc : Cur w p) (h0 : 0 <= m) (h1 : m <= 65536) :
  Calls Try.prog 70 #[.pointer (some ⟨p,0,none⟩),.int .i64 m] w fun e w' => ∃ s : ByteArray,e = .returned (.string s) ∧ (s.size : Int) <= m ∧ Cur w' p ∧ Aside p (p + 1) w w' := by
 obtain ⟨i0,hi0,hz0,hz1,hz2⟩ := info_parts Try.infoU8d
 have hpl := hc.lt
 have HO := hide (own_made0 w 5)
 go_enter Try.func70,Try.ntmps70
 go_wp2_with fail
 refine (l1Below_any p _ _ (hc.alloc _) (by omega)).mono ?_
 rintro e w1 ⟨x,rfl,x0,x1,c1,s1⟩
 have A1 := ((Aside.refl p (p + 1) w).alloc (.cells #[] 5)).trans s1
 have HO1 := hide (own_aside HO.out s1 (by omega))
 have HA1 := hide A1
 clear HO A1 s1
 go_wp2_with fail
 go_loopw [5,6] (fun v i wr => ∃ (l : List UInt8) (k : Int),i = .int .i64 k ∧ 0 <= k ∧ k + l.length <= m ∧ wr.ownsRow w.heap.size 5 1 v l.length (l.map byteV) ∧ Cur wr p ∧ Aside p (p + 1) w wr) (fun _ i _ => (intOf i).toNat)
 case atStart => exact ⟨[],x,rfl,x0,by simp; omega,HO1.out,c1,HA1.out⟩
 case round =>
  obtain ⟨l,k,rfl,k0,k1,hown,hcr,hA⟩ := hrel
  clear HO1 HA1
  by_cases hlt : 0 < k
  ·have HOWN := hide hown
   have HA := hide hA
   clear hown hA
   go_wp2_with fail
   refine (l1Below_any p 4 wr hcr (by omega)).mono ?_
   rintro e w2 ⟨y,rfl,y0,y1,c2,s2⟩
   obtain ⟨u,hu⟩ := byte_of (97 + y) (by omega) (by omega)
   have A2 := HA.out.trans s2
   have s2' := A2.size
   have HO2 := hide ((own_aside HOWN.out s2 (by omega)).alloc (.cells #[.int .u8 (u.toNat : Int)] 5))
   have HA2 := hide (A2.alloc (.cells #[.int .u8 (u.toNat : Int)] 5))
   have HC2 := hide (c2.alloc (.cells #[.int .u8 (u.toNat : Int)] 5))
   have hl31 : l.length <= 65536 := by omega
   clear A2 s2 c2 HOWN HA hcr
   go_wp2_with (at_builtin; (refine wpList_append_own _ rfl (.tmp 16) (.tmp 21) 22 rfl w.heap.size 5 i0 (.int .u8 0) 1 1 Try.underlying22 hi0 hz0 hz1 hz2 rfl (by decide) _ _ _ rfl HO2.out ⟨w2.heap.size,0,none⟩ 1 1 [.int .u8 (u.toNat : Int)] rfl rfl (cell_one_new _ _ _) (byteV_one u) (by unfold maxLen; omega) (by omega) (by simp; omega) ?_); intro v' w3 hown hgrow _; have HO3 := hide hown; have HA3 := hide (HA2.out.grown hgrow (fun k hk => (HO2.out.lt k hk).1)); have HC3 := hide (HC2.out.grown hgrow (fun k hk => Nat.lt_of_lt_of_le hpl (HO2.out.lt k hk).1)); clear hown hgrow)
   go_roundw
   case rel => exact ⟨l ++ [u],k - 1,by go_num,by omega,by simp; omega,by rw [List.length_append,List.map_append]; exact HO3.out,HC3.out,HA3.out⟩
   case measure => simp [intOf]; omega
  ·obtain ⟨a',cap',rfl,hcap',hlen,hsome,how⟩ := owned_of_own hown
   have HHOW := hide how
   have HLEN := hide hlen
   have HA := hide hA
   have hl31 : l.length <= 65536 := by omega
   clear hown how hA hlen
   go_wp2_with fail
   refine (l1Once_any p 5 wr hcr (by omega)).mono ?_
   rintro e w2 ⟨b,rfl,c2,s2⟩
   have HOW2 := hide (HHOW.out.aside s2 (.inr (by omega)))
   have HA2 := hide (HA.out.trans s2)
   clear HHOW HA s2
   cases b
   ·have hB : Bytes w.heap.size wr.heap.size w2 a' l.length l := ⟨rfl,(HOW2.out.congr (fun i hi => by rw [List.getD_eq_getElem?_getD]; simp [hi,byteV,cellB,List.getD_eq_getElem?_getD])).reads⟩
    have hst := string_of (P := Try.prog) hB 22 9 5 cap' Try.underlying22 Try.underlying5 Try.underlying9
    clear hB
    go_wp2
    go_ret
    exact ⟨_,rfl,by rw [size_mk]; omega,c2,HA2.out⟩
   ·by_cases hl0 : l.length = 0
    ·obtain rfl : l = [] := List.eq_nil_of_length_eq_zero hl0
     have hB : Bytes w.heap.size wr.heap.size w2 a' 0 [] := ⟨rfl,HOW2.out.1,fun h => absurd h (Nat.lt_irrefl _)⟩
     have hst := string_of (P := Try.prog) hB 22 9 5 cap' Try.underlying22 Try.underlying5 Try.underlying9
     clear hB
     go_wp2
     go_ret
     exact ⟨_,rfl,by rw [size_mk]; simpa using h0,c2,HA2.out⟩
    ·have hz : (0 : Int) < (l.length : Int) := by omega
     obtain ⟨g,rfl⟩ := hsome (by omega)
     go_wp2_with fail
     refine (l1Below_any p _ w2 c2 (by omega)).mono ?_
     rintro e w3 ⟨y,rfl,y0,y1,c3,s3⟩
     obtain ⟨q,rfl⟩ := Int.eq_ofNat_of_zero_le y0
     have hq : q < l.length := by omega
     have HOW3 := hide (HOW2.out.aside s3 (.inr (by omega)))
     have HA3 := hide (HA2.out.trans s3)
     clear HOW2 HA2 s3
     go_wp2_with fail
     refine (l1Byte_any p w3 c3).mono ?_
     rintro e w4 ⟨z,rfl,z0,z1,c4,s4⟩
     have how4 := HOW3.out.aside s4 (.inr (by omega))
     have A4 := HA3.out.trans s4
     obtain ⟨u,rfl⟩ := byte_of z z0 z1
     obtain ⟨hco,hfo,hg1,hg2⟩ := how4.at0 (i := q) hq
     have hset := how4.set0 (i := q) hq (.int .u8 (u.toNat : Int))
     have hB : Bytes w.heap.size wr.heap.size (w4.setCell ⟨g,q,none⟩ (.int .u8 (u.toNat : Int))) (some ⟨g,0,none⟩) l.length (l.set q u) := ⟨by simp,(hset.congr (fun i hi => by
      by_cases e : i = q
      ·subst e; rw [if_pos rfl]; simp [cellB,List.getD_eq_getElem?_getD,hi]
      ·rw [if_neg e,cellB,List.getD_eq_getElem?_getD,List.getD_eq_getElem?_getD,List.getElem?_set_ne (fun h => e h.symm)]; simp [hi,byteV])).reads⟩
     have hst := string_of (P := Try.prog) hB 22 9 5 cap' Try.underlying22 Try.underlying5 Try.underlying9
     have hcz : w4.cell? ⟨g,q,none⟩ = some (.int .u8 ((l.getD q 0).toNat : Int)) := by rw [hco]; simp [List.getD_eq_getElem?_getD,hq,byteV]
     clear hco
     have AA := hide (A4.set_new (q := q) hg1 (.int .u8 (u.toNat : Int)))
     have hcs := hide (c4.set_new (q := q) (g := g) (by omega) (.int .u8 (u.toNat : Int)))
     clear hB hset how4 A4 HOW3 HA3 s4
     go_wp2
     go_ret
     exact ⟨_,rfl,by rw [size_mk,List.length_set]; omega,hcs.out,AA.out⟩
theorem ownBytes_of {w : World} {base e n : Nat} {v : Value} {l : List UInt8} (h : w.ownsRow base e 1 v n (l.map byteV)) {lo : Nat} (hlo : lo <= base) :
  ∃ a cap,v = .slice a n cap ∧ n <= cap ∧ OwnBytes lo w.heap.size w a n l := by
 obtain ⟨a,cap,rfl,hcap,hlen,_,how⟩ := owned_of_own h
 rw [List.length_map] at hlen
 refine ⟨a,cap,rfl,hcap,hlen,how.1,fun hn => ?_⟩
 obtain ⟨b,off,e,h1,h2,h3⟩ := how.2 hn
 refine ⟨b,off,e,Nat.le_trans hlo h1,h2,fun i hi => ?_⟩
 obtain ⟨h4,h5⟩ := h3 i hi
 refine ⟨h4.trans ?_,h5⟩
 show some ((l.map byteV).getD i (.int .i64 0)) = some (cellB l i)
 rw [List.getD_eq_getElem?_getD]
 simp [show i < l.length by omega,byteV,cellB,List.getD_eq_getElem?_getD]
end Go.Proofs.Ytfogmdnkpkofiaa
end

