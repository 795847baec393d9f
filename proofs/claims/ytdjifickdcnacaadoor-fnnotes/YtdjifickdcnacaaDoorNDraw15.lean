/- . -/
import Derived.Test.YtdjifickdcnacaaDoorNNoteSpecB
import Derived.Test.YtdjifickdcnacaaDoorNDrawBase
import Derived.Deep.RegionHeld3
import Derived.Deep.DeepCutAuto
namespace Go.Proofs.YtdjifickdcnacaaDoor
open Go.RowKit
set_option linter.unusedVariables false
set_option linter.unusedSimpArgs false
set_option maxRecDepth 20000
theorem aside_bn {w w' : World} {l r g : Nat} {o : Obj} (h : Aside l r w w') (hb : w.heap[g]? = some o) (hg : g < l ∨ r <= g) : w'.heap[g]? = some o :=
 (h.block g (Array.getElem?_eq_some_iff.1 hb).1 hg).trans hb
theorem text_zeroN (N : Nat) (hN : N <= 4096) : ∃ (O : Obj) (s : ByteArray),s.size = N ∧ (∀ W : World,(Instr.makeSlice 22 (.int .i64 (N : Int)) (.int .i64 (N : Int))).run Tryd.prog W = .ok (.slice (some ⟨W.heap.size,0,none⟩) N N) (W.alloc O)) ∧ ∀ (W : World) (G : Nat),W.heap[G]? = some O -> (convert 22 9 (.slice (some ⟨G,0,none⟩) N N)).run Tryd.prog W = .ok (.string s) W := by
 refine ⟨.cells (madeCells #[.int .u8 0] N) 5,⟨(List.replicate N (0 : UInt8)).toArray⟩,by simp [ByteArray.size],fun W => make_row (P := Tryd.prog) 22 5 (.int .u8 0) 1 Tryd.underlying22 Tryd.infoU8d rfl (N : Int) (N : Int) N N (by omega) (by omega) (by omega) (by omega) (by omega) W,fun W G hG => ?_⟩
 have hBy : Bytes 0 W.heap.size W (some ⟨G,0,none⟩) N (List.replicate N 0) := by
  refine ⟨by simp,⟨Nat.le_refl _,fun h0 => ?_⟩⟩
  refine ⟨G,0,rfl,Nat.zero_le _,(Array.getElem?_eq_some_iff.1 hG).1,fun i hi => ?_⟩
  simp [World.cell?,hG,madeCells,cellB,List.getD_eq_getElem?_getD,hi,Nat.mod_one]
 exact string_of (P := Tryd.prog) hBy 22 9 5 N Tryd.underlying22 Tryd.underlying5 Tryd.underlying9
structure NBx (w : World) (N p : Nat) (x : Nt) (av : Option Addr) (c : Nat) (W : World) : Prop where
 res : ∃ c0 c1 c2 c3 c4 c5 c6,W.heap[w.heap.size]? = some (.cells #[c0,c1,c2,c3,c4,c5,c6] 26)
 box : W.heap[N]? = some (.cells #[.int .i64 x.k,.int .i64 x.tt,.int .i64 x.e,.int .i64 x.s,.int .i64 x.a,.string x.tx,.slice av x.vs.length c] 26)
 txs : ∃ hi,Texts (N + 1) hi W av x.vs.length x.vs
 cur : Cur W p
 asd : Aside p (p + 1) w W
 lt : w.heap.size < N
 pl : p < w.heap.size
 vc : x.vs.length <= c
theorem NBx.on {w : World} {N p : Nat} {x : Nt} {av : Option Addr} {c : Nat} {W W' : World} (h : NBx w N p x av c W) (hc : Cur W' p) (ha : Aside p (p + 1) W W') : NBx w N p x av c W' := by
 have h1 := h.lt
 have h2 := h.pl
 obtain ⟨c0,c1,c2,c3,c4,c5,c6,hr⟩ := h.res
 obtain ⟨hi,ht⟩ := h.txs
 exact ⟨⟨c0,c1,c2,c3,c4,c5,c6,aside_bn ha hr (by omega)⟩,aside_bn ha h.box (by omega),⟨hi,ht.aside ha (.inr (by omega))⟩,hc,h.asd.trans ha,h1,h2,h.vc⟩
theorem NBx.alloc {w : World} {N p : Nat} {x : Nt} {av : Option Addr} {c : Nat} {W : World} (h : NBx w N p x av c W) (o : Obj) : NBx w N p x av c (W.alloc o) := by
 have hb : Below W.heap.size W (W.alloc o) := (Below.refl _ _).alloc (Nat.le_refl _) _
 obtain ⟨c0,c1,c2,c3,c4,c5,c6,hr⟩ := h.res
 obtain ⟨hi,ht⟩ := h.txs
 exact ⟨⟨c0,c1,c2,c3,c4,c5,c6,heap_old hr⟩,heap_old h.box,⟨hi,ht.later hb ht.2.1⟩,h.cur.alloc o,h.asd.alloc o,h.lt,h.pl,h.vc⟩
theorem NBx.set {w : World} {N p : Nat} {x x' : Nt} {av av' : Option Addr} {c c' : Nat} {W : World} (h : NBx w N p x av c W) (i : Nat) (v : Value)
  (hb : (W.setCell ⟨N,i,none⟩ v).heap[N]? = some (.cells #[.int .i64 x'.k,.int .i64 x'.tt,.int .i64 x'.e,.int .i64 x'.s,.int .i64 x'.a,.string x'.tx,.slice av' x'.vs.length c'] 26))
  (ht : ∃ hi,Texts (N + 1) hi W av' x'.vs.length x'.vs) (hv : x'.vs.length <= c') : NBx w N p x' av' c' (W.setCell ⟨N,i,none⟩ v) := by
 have h1 := h.lt
 have h2 := h.pl
 obtain ⟨c0,c1,c2,c3,c4,c5,c6,hr⟩ := h.res
 obtain ⟨hi,ht⟩ := ht
 have ha : Aside N (N + 1) W (W.setCell ⟨N,i,none⟩ v) := (Aside.refl _ _ _).setCell (p := ⟨N,i,none⟩) (Nat.le_refl _) (Nat.lt_succ_self _) v
 exact ⟨⟨c0,c1,c2,c3,c4,c5,c6,aside_bn ha hr (by omega)⟩,hb,⟨hi,ht.aside ha (.inr (Nat.le_refl _))⟩,h.cur.set_new (by omega) v,h.asd.set_new (by omega) v,h1,h2,hv⟩
theorem NBx.setK {w : World} {N p : Nat} {x : Nt} {av : Option Addr} {c : Nat} {W : World} (h : NBx w N p x av c W) (v : Int) : NBx w N p ⟨v,x.tt,x.e,x.s,x.a,x.tx,x.vs⟩ av c (W.setCell ⟨N,0,none⟩ (.int .i64 v)) :=
 h.set 0 _ (set_block h.box 0 (.int .i64 v) (by simp)) h.txs h.vc
theorem NBx.setT {w : World} {N p : Nat} {x : Nt} {av : Option Addr} {c : Nat} {W : World} (h : NBx w N p x av c W) (v : Int) : NBx w N p ⟨x.k,v,x.e,x.s,x.a,x.tx,x.vs⟩ av c (W.setCell ⟨N,1,none⟩ (.int .i64 v)) :=
 h.set 1 _ (set_block h.box 1 (.int .i64 v) (by simp)) h.txs h.vc
theorem NBx.setE {w : World} {N p : Nat} {x : Nt} {av : Option Addr} {c : Nat} {W : World} (h : NBx w N p x av c W) (v : Int) : NBx w N p ⟨x.k,x.tt,v,x.s,x.a,x.tx,x.vs⟩ av c (W.setCell ⟨N,2,none⟩ (.int .i64 v)) :=
 h.set 2 _ (set_block h.box 2 (.int .i64 v) (by simp)) h.txs h.vc
theorem NBx.setA {w : World} {N p : Nat} {x : Nt} {av : Option Addr} {c : Nat} {W : World} (h : NBx w N p x av c W) (v : Int) : NBx w N p ⟨x.k,x.tt,x.e,x.s,v,x.tx,x.vs⟩ av c (W.setCell ⟨N,4,none⟩ (.int .i64 v)) :=
 h.set 4 _ (set_block h.box 4 (.int .i64 v) (by simp)) h.txs h.vc
theorem NBx.setX {w : World} {N p : Nat} {x : Nt} {av : Option Addr} {c : Nat} {W : World} (h : NBx w N p x av c W) (v : ByteArray) : NBx w N p ⟨x.k,x.tt,x.e,x.s,x.a,v,x.vs⟩ av c (W.setCell ⟨N,5,none⟩ (.string v)) :=
 h.set 5 _ (set_block h.box 5 (.string v) (by simp)) h.txs h.vc
theorem NBx.setV {w : World} {N p : Nat} {x : Nt} {av : Option Addr} {c : Nat} {W : World} (h : NBx w N p x av c W) (av' : Option Addr) (c' : Nat) (vs : List ByteArray) (ht : ∃ hi,Texts (N + 1) hi W av' vs.length vs) (hc : vs.length <= c') : NBx w N p ⟨x.k,x.tt,x.e,x.s,x.a,x.tx,vs⟩ av' c' (W.setCell ⟨N,6,none⟩ (.slice av' vs.length c')) :=
 h.set 6 _ (set_block h.box 6 (.slice av' vs.length c') (by simp)) ht hc
theorem NBx.cells {w : World} {N p : Nat} {x : Nt} {av : Option Addr} {c : Nat} {W : World} (h : NBx w N p x av c W) : (W.cell? ⟨N,0,none⟩ = some (.int .i64 x.k) ∧ W.cell? ⟨N,1,none⟩ = some (.int .i64 x.tt) ∧ W.cell? ⟨N,2,none⟩ = some (.int .i64 x.e) ∧ W.cell? ⟨N,3,none⟩ = some (.int .i64 x.s) ∧ W.cell? ⟨N,4,none⟩ = some (.int .i64 x.a) ∧ W.cell? ⟨N,5,none⟩ = some (.string x.tx) ∧ W.cell? ⟨N,6,none⟩ = some (.slice av x.vs.length c)) ∧ (W.frozen? ⟨N,0,none⟩ = false ∧ W.frozen? ⟨N,1,none⟩ = false ∧ W.frozen? ⟨N,2,none⟩ = false ∧ W.frozen? ⟨N,3,none⟩ = false ∧ W.frozen? ⟨N,4,none⟩ = false ∧ W.frozen? ⟨N,5,none⟩ = false ∧ W.frozen? ⟨N,6,none⟩ = false) :=
 ⟨note_cells h.box,four_frozen h.box 0,four_frozen h.box 1,four_frozen h.box 2,four_frozen h.box 3,four_frozen h.box 4,four_frozen h.box 5,four_frozen h.box 6⟩
def NoteDrawn (w : World) (p : Nat) (e : Ending) (w' : World) : Prop := ∃ (x : Nt) (av : Option Addr) (c : Nat),e = .returned (noteV x av x.vs.length c) ∧ x.vs.length <= 3 ∧ x.vs.length <= c ∧ x.tx.size <= 30 ∧ (∀ y ∈ x.vs,y.size <= 30) ∧ Texts w.heap.size w'.heap.size w' av x.vs.length x.vs ∧ Cur w' p ∧ Aside p (p + 1) w w'
def NtSz (x : Nt) : Prop := x.vs.length <= 3 ∧ x.tx.size <= 30 ∧ ∀ y ∈ x.vs,y.size <= 30
theorem NBx.fin {w : World} {N p : Nat} {x : Nt} {av : Option Addr} {c : Nat} {W : World} (h : NBx w N p x av c W) (hx : NtSz x) : ∃ W',W' = (((((((W.setCell ⟨w.heap.size,0,none⟩ (.int .i64 x.k)).setCell ⟨w.heap.size,1,none⟩ (.int .i64 x.tt)).setCell ⟨w.heap.size,2,none⟩ (.int .i64 x.e)).setCell ⟨w.heap.size,3,none⟩ (.int .i64 x.s)).setCell ⟨w.heap.size,4,none⟩ (.int .i64 x.a)).setCell ⟨w.heap.size,5,none⟩ (.string x.tx)).setCell ⟨w.heap.size,6,none⟩ (.slice av x.vs.length c)) ∧
  W'.heap[w.heap.size]? = some (.cells #[.int .i64 x.k,.int .i64 x.tt,.int .i64 x.e,.int .i64 x.s,.int .i64 x.a,.string x.tx,.slice av x.vs.length c] 26) ∧ NoteDrawn w p (.returned (noteV x av x.vs.length c)) W' ∧ W.frozen? ⟨w.heap.size,0,none⟩ = false ∧ W.frozen? ⟨w.heap.size,1,none⟩ = false ∧ W.frozen? ⟨w.heap.size,2,none⟩ = false ∧ W.frozen? ⟨w.heap.size,3,none⟩ = false ∧ W.frozen? ⟨w.heap.size,4,none⟩ = false ∧ W.frozen? ⟨w.heap.size,5,none⟩ = false ∧ W.frozen? ⟨w.heap.size,6,none⟩ = false ∧ (∃ c0 c1 c2 c3 c4 c5 c6,W.cell? ⟨w.heap.size,0,none⟩ = some c0 ∧ W.cell? ⟨w.heap.size,1,none⟩ = some c1 ∧ W.cell? ⟨w.heap.size,2,none⟩ = some c2 ∧ W.cell? ⟨w.heap.size,3,none⟩ = some c3 ∧ W.cell? ⟨w.heap.size,4,none⟩ = some c4 ∧ W.cell? ⟨w.heap.size,5,none⟩ = some c5 ∧ W.cell? ⟨w.heap.size,6,none⟩ = some c6) := by
 obtain ⟨c0,c1,c2,c3,c4,c5,c6,hr⟩ := h.res
 obtain ⟨hi,ht⟩ := h.txs
 have h1 := h.lt
 have h2 := h.pl
 have hA := note_aside (Aside.refl w.heap.size (w.heap.size + 1) W) (Nat.le_refl _) (Nat.lt_succ_self _) (.int .i64 x.k) (.int .i64 x.tt) (.int .i64 x.e) (.int .i64 x.s) (.int .i64 x.a) (.string x.tx) (.slice av x.vs.length c)
 have hT := ht.aside hA (.inr (by omega))
 refine ⟨_,rfl,note_set hr _ _ _ _ _ _ _,⟨x,av,c,rfl,hx.1,h.vc,hx.2.1,hx.2.2,⟨hT.1,reads_wide hT.2 (by omega) hT.2.1 (Nat.le_refl _)⟩,?_,?_⟩,four_frozen hr 0,four_frozen hr 1,four_frozen hr 2,four_frozen hr 3,four_frozen hr 4,four_frozen hr 5,four_frozen hr 6,c0,c1,c2,c3,c4,c5,c6,note_cells hr⟩
 ·exact ((((((h.cur.set_new h2 _).set_new h2 _).set_new h2 _).set_new h2 _).set_new h2 _).set_new h2 _).set_new h2 _
 ·exact ((((((h.asd.set_new (Nat.le_refl _) _).set_new (Nat.le_refl _) _).set_new (Nat.le_refl _) _).set_new (Nat.le_refl _) _).set_new (Nat.le_refl _) _).set_new (Nat.le_refl _) _).set_new (Nat.le_refl _) _
set_option maxHeartbeats 4000000 in
theorem l15Draw_any (p : Nat) (w : World) (hc : Cur w p) : Calls Tryd.prog 53 #[.pointer (some ⟨p,0,none⟩)] w (NoteDrawn w p) := by
 have hpl := hc.lt
 obtain ⟨wA,hwA⟩ : ∃ wA,wA = w.alloc (.cells #[.int .i64 0,.int .i64 0,.int .i64 0,.int .i64 0,.int .i64 0,.string ⟨#[]⟩,.slice none 0 0] 26) := ⟨_,rfl⟩
 have HCA : Hid (Cur wA p) := by rw [hwA]; exact hc.alloc _
 have HAA : Hid (Aside p (p + 1) w wA) := by rw [hwA]; exact (Aside.refl p (p + 1) w).alloc _
 have HKA : Hid (wA.heap[w.heap.size]? = some (.cells #[.int .i64 0,.int .i64 0,.int .i64 0,.int .i64 0,.int .i64 0,.string ⟨#[]⟩,.slice none 0 0] 26)) := by rw [hwA]; exact heap_new _ _
 clear hc
 go_enter Tryd.func53,Tryd.ntmps53
 go_wp2_with fail
 rw [<- hwA]
 clear hwA
 refine (l1Below_any p 3 wA HCA.out (by omega)).mono ?_
 rintro e w1 ⟨x,rfl,x0,x1,c1,s1⟩
 have HK1 := hide (aside_bn s1 HKA.out (by omega))
 have HA1 := hide (HAA.out.trans s1)
 clear s1 HKA HAA HCA
 go_wp2_with fail
 refine (l1Below_any p 2 w1 c1 (by omega)).mono ?_
 rintro e w2 ⟨y,rfl,y0,y1,c2,s2⟩
 have HK2 := hide (aside_bn s2 HK1.out (by omega))
 have HA2 := hide (HA1.out.trans s2)
 clear s2 HK1 HA1 c1
 go_wp2_with fail
 refine (l1Below_any p 4 w2 c2 (by omega)).mono ?_
 rintro e w3 ⟨z,rfl,z0,z1,c3,s3⟩
 have HK3 := hide (aside_bn s3 HK2.out (by omega))
 have HA3 := hide (HA2.out.trans s3)
 clear s3 HK2 HA2 c2
 go_wp2_with fail
 refine (l1Below_any p 6 w3 c3 (by omega)).mono ?_
 rintro e w4 ⟨u,rfl,u0,u1,c4,s4⟩
 have HK4 := hide (aside_bn s4 HK3.out (by omega))
 have HA4 := hide (HA3.out.trans s4)
 have hs4 : w.heap.size < w4.heap.size := (Array.getElem?_eq_some_iff.1 HK4.out).1
 clear s4 HK3 HA3 c3
 obtain ⟨N,hN⟩ : ∃ N,N = w4.heap.size := ⟨_,rfl⟩
 have hx3 : x = 0 ∨ x = 1 ∨ x = 2 := by omega
 have HMK : ∀ k : Int,Hid (NBx w N p ⟨k,y,z,u,0,⟨#[]⟩,[]⟩ none 0 (w4.alloc (.cells #[.int .i64 k,.int .i64 y,.int .i64 z,.int .i64 u,.int .i64 0,.string ⟨#[]⟩,.slice none 0 0] 26))) := by
  intro k
  rw [hN]
  exact ⟨⟨_,_,_,_,_,_,_,heap_old HK4.out⟩,heap_new _ _,⟨_,rfl,Nat.zero_le _,fun h => absurd h (by simp)⟩,c4.alloc _,HA4.out.alloc _,hs4,hpl,Nat.le_refl _⟩
 have HPL := hide hpl
 clear c4 HK4 HA4 hs4
 rcases hx3 with rfl | rfl | rfl
 ·obtain ⟨w5,hw5⟩ : ∃ w5,w5 = w4.alloc (.cells #[.int .i64 1,.int .i64 y,.int .i64 z,.int .i64 u,.int .i64 0,.string ⟨#[]⟩,.slice none 0 0] 26) := ⟨_,rfl⟩
  have HX5 := HMK 1
  rw [<- hw5] at HX5
  obtain ⟨⟨k0,k1,k2,k3,k4,k5,k6⟩,g0,g1,g2,g3,g4,g5,g6⟩ := HX5.out.cells
  dsimp only at k0 k1 k2 k3 k4 k5 k6
  go_upto_region 2 with fail
  rw [<- hw5,<- hN]
  clear hw5 HMK hN
  go_wp2_with fail
  refine (l1Below_any p 3 w5 HX5.out.cur (by omega)).mono ?_
  rintro e w6 ⟨a,rfl,a0,a1,c6,s6⟩
  have HX6 := hide (HX5.out.on c6 s6)
  clear c6 s6 HX5 k0 k1 k2 k3 k4 k5 k6 g0 g1 g2 g3 g4 g5 g6
  obtain ⟨⟨k0,k1,k2,k3,k4,k5,k6⟩,g0,g1,g2,g3,g4,g5,g6⟩ := HX6.out.cells
  dsimp only at k0 k1 k2 k3 k4 k5 k6
  have HX7 := hide (HX6.out.setA a)
  dsimp only at HX7
  go_upto_region 5 with fail
  obtain ⟨w7,hst⟩ : ∃ W',W' = w6.setCell ⟨N,4,none⟩ (.int .i64 a) := ⟨_,rfl⟩
  rw [<- hst] at HX7 ⊢
  clear hst HX6 k0 k1 k2 k3 k4 k5 k6 g0 g1 g2 g3 g4 g5 g6
  go_wp2_with fail
  refine (drawText_any p 4 w7 HX7.out.cur (by omega) (by omega)).mono ?_
  rintro e w8 ⟨t,rfl,ht,c8,s8⟩
  have HX8 := hide (HX7.out.on c8 s8)
  have HTT : Hid (t.size <= 30) := by show _ <= _; omega
  clear c8 s8 HX7
  obtain ⟨⟨k0,k1,k2,k3,k4,k5,k6⟩,g0,g1,g2,g3,g4,g5,g6⟩ := HX8.out.cells
  dsimp only at k0 k1 k2 k3 k4 k5 k6
  have HX9 := hide (HX8.out.setX t)
  dsimp only at HX9
  go_upto_region 8 with fail
  obtain ⟨w9,hst⟩ : ∃ W',W' = w8.setCell ⟨N,5,none⟩ (.string t) := ⟨_,rfl⟩
  rw [<- hst] at HX9 ⊢
  clear hst HX8 k0 k1 k2 k3 k4 k5 k6 g0 g1 g2 g3 g4 g5 g6
  go_wp2_with fail
  have HSZ : Hid (NtSz ⟨1,y,z,u,a,t,[]⟩) := ⟨by simp,HTT.out,by simp⟩
  refine (l1Once_any p 14 w9 HX9.out.cur (by omega)).mono ?_
  rintro e wo ⟨b,rfl,co,so⟩
  have HXo := hide (HX9.out.on co so)
  clear co so HX9
  cases b with
  | false =>
   obtain ⟨wz,hwz,hkz,hpz,f0,f1,f2,f3,f4,f5,f6,e0,e1,e2,e3,e4,e5,e6,d0,d1,d2,d3,d4,d5,d6⟩ := HXo.out.fin HSZ.out
   dsimp only at hwz hkz hpz
   rw [show ([] : List ByteArray).length = 0 from rfl] at hwz hkz hpz
   obtain ⟨⟨k0,k1,k2,k3,k4,k5,k6⟩,g0,g1,g2,g3,g4,g5,g6⟩ := HXo.out.cells
   dsimp only at k0 k1 k2 k3 k4 k5 k6
   go_wp2_with fail
   rw [<- hwz]
   exact bodyPost_ret (results_cell rfl rfl (run_loadVar_row _ _ _ _ _ _ _ hkz Tryd.underlying26 rfl (by kernel_rfl))) rfl hpz
  | true =>
   go_wp2_with fail
   refine (l1Below_any p 4 wo HXo.out.cur (by omega)).mono ?_
   rintro e wp ⟨j,rfl,j0,j1,cp,sp⟩
   have HXp := hide (HXo.out.on cp sp)
   clear cp sp HXo
   have hj : j = 0 ∨ j = 1 ∨ j = 2 ∨ j = 3 := by omega
   clear j0 j1
   rcases hj with rfl | rfl | rfl | rfl
   ·obtain ⟨wl,hwl⟩ : ∃ wl,wl = wp.alloc (.cells #[.int .i64 0,.int .i64 4,.int .i64 (-1)] 2) := ⟨_,rfl⟩
    have HXl := hide (HXp.out.alloc (.cells #[.int .i64 0,.int .i64 4,.int .i64 (-1)] 2))
    have HL := hide (heap_new wp (.cells #[.int .i64 0,.int .i64 4,.int .i64 (-1)] 2))
    rw [<- hwl] at HXl HL
    have HLT : Hid (p + 1 <= wp.heap.size) := by have h1 := HXp.out.lt; have h2 := HXp.out.pl; have h3 := (Array.getElem?_eq_some_iff.1 HXp.out.box).1; show _ <= _; omega
    go_wp2_with fail
    rw [<- hwl]
    refine (l1Below_any p 3 wl HXl.out.cur (by omega)).mono ?_
    rintro e wm ⟨q,rfl,q0,q1,cm,sm⟩
    obtain ⟨v,hv⟩ : ∃ v : Int,wm.cell? ⟨wp.heap.size,q.toNat,none⟩ = some (.int .i64 v) := by
     have hb := aside_bn sm HL.out (.inr HLT.out)
     have hq : q = 0  ∨ q = 1 ∨ q = 2 := by omega
     rcases hq with rfl | rfl | rfl
     ·exact ⟨0,by simp [World.cell?,hb]⟩
     ·exact ⟨4,by simp [World.cell?,hb]⟩
     ·exact ⟨(-1),by simp [World.cell?,hb]⟩
    have hqq : q = (q.toNat : Int) := by omega
    obtain ⟨qn,hqn⟩ : ∃ qn,qn = q.toNat := ⟨_,rfl⟩
    rw [<- hqn] at hv hqq
    have hqlt : qn < 3 := by omega
    clear hqn
    subst hqq
    have HXm := hide (HXl.out.on cm sm)
    clear cm sm HXl HL HLT HXp hwl q0 q1
    obtain ⟨⟨k0,k1,k2,k3,k4,k5,k6⟩,g0,g1,g2,g3,g4,g5,g6⟩ := HXm.out.cells
    dsimp only at k0 k1 k2 k3 k4 k5 k6
    have HXn := hide (HXm.out.setK v)
    dsimp only at HXn
    go_upto_region 18 with fail
    obtain ⟨wn,hst⟩ : ∃ W',W' = wm.setCell ⟨N,0,none⟩ (.int .i64 v) := ⟨_,rfl⟩
    rw [<- hst] at HXn ⊢
    clear hst HXm hv k0 k1 k2 k3 k4 k5 k6 g0 g1 g2 g3 g4 g5 g6
    obtain ⟨wz,hwz,hkz,hpz,f0,f1,f2,f3,f4,f5,f6,e0,e1,e2,e3,e4,e5,e6,d0,d1,d2,d3,d4,d5,d6⟩ := HXn.out.fin ⟨HSZ.out.1,HSZ.out.2.1,HSZ.out.2.2⟩
    dsimp only at hwz hkz hpz
    rw [show ([] : List ByteArray).length = 0 from rfl] at hwz hkz hpz
    obtain ⟨⟨k0,k1,k2,k3,k4,k5,k6⟩,g0,g1,g2,g3,g4,g5,g6⟩ := HXn.out.cells
    dsimp only at k0 k1 k2 k3 k4 k5 k6
    go_wp2_with fail
    rw [<- hwz]
    exact bodyPost_ret (results_cell rfl rfl (run_loadVar_row _ _ _ _ _ _ _ hkz Tryd.underlying26 rfl (by kernel_rfl))) rfl hpz
   ·obtain ⟨wl,hwl⟩ : ∃ wl,wl = wp.alloc (.cells #[.int .i64 (-1),.int .i64 2] 2) := ⟨_,rfl⟩
    have HXl := hide (HXp.out.alloc (.cells #[.int .i64 (-1),.int .i64 2] 2))
    have HL := hide (heap_new wp (.cells #[.int .i64 (-1),.int .i64 2] 2))
    rw [<- hwl] at HXl HL
    have HLT : Hid (p + 1 <= wp.heap.size) := by have h1 := HXp.out.lt; have h2 := HXp.out.pl; have h3 := (Array.getElem?_eq_some_iff.1 HXp.out.box).1; show _ <= _; omega
    go_wp2_with fail
    rw [<- hwl]
    refine (l1Below_any p 2 wl HXl.out.cur (by omega)).mono ?_
    rintro e wm ⟨q,rfl,q0,q1,cm,sm⟩
    obtain ⟨v,hv⟩ : ∃ v : Int,wm.cell? ⟨wp.heap.size,q.toNat,none⟩ = some (.int .i64 v) := by
     have hb := aside_bn sm HL.out (.inr HLT.out)
     have hq : q = 0  ∨ q = 1 := by omega
     rcases hq with rfl | rfl
     ·exact ⟨(-1),by simp [World.cell?,hb]⟩
     ·exact ⟨2,by simp [World.cell?,hb]⟩
    have hqq : q = (q.toNat : Int) := by omega
    obtain ⟨qn,hqn⟩ : ∃ qn,qn = q.toNat := ⟨_,rfl⟩
    rw [<- hqn] at hv hqq
    have hqlt : qn < 2 := by omega
    clear hqn
    subst hqq
    have HXm := hide (HXl.out.on cm sm)
    clear cm sm HXl HL HLT HXp hwl q0 q1
    obtain ⟨⟨k0,k1,k2,k3,k4,k5,k6⟩,g0,g1,g2,g3,g4,g5,g6⟩ := HXm.out.cells
    dsimp only at k0 k1 k2 k3 k4 k5 k6
    have HXn := hide (HXm.out.setT v)
    dsimp only at HXn
    go_upto_region 18 with fail
    obtain ⟨wn,hst⟩ : ∃ W',W' = wm.setCell ⟨N,1,none⟩ (.int .i64 v) := ⟨_,rfl⟩
    rw [<- hst] at HXn ⊢
    clear hst HXm hv k0 k1 k2 k3 k4 k5 k6 g0 g1 g2 g3 g4 g5 g6
    obtain ⟨wz,hwz,hkz,hpz,f0,f1,f2,f3,f4,f5,f6,e0,e1,e2,e3,e4,e5,e6,d0,d1,d2,d3,d4,d5,d6⟩ := HXn.out.fin ⟨HSZ.out.1,HSZ.out.2.1,HSZ.out.2.2⟩
    dsimp only at hwz hkz hpz
    rw [show ([] : List ByteArray).length = 0 from rfl] at hwz hkz hpz
    obtain ⟨⟨k0,k1,k2,k3,k4,k5,k6⟩,g0,g1,g2,g3,g4,g5,g6⟩ := HXn.out.cells
    dsimp only at k0 k1 k2 k3 k4 k5 k6
    go_wp2_with fail
    rw [<- hwz]
    exact bodyPost_ret (results_cell rfl rfl (run_loadVar_row _ _ _ _ _ _ _ hkz Tryd.underlying26 rfl (by kernel_rfl))) rfl hpz
   ·obtain ⟨wl,hwl⟩ : ∃ wl,wl = wp.alloc (.cells #[.int .i64 (-1),.int .i64 1000000,.int .i64 1000001] 2) := ⟨_,rfl⟩
    have HXl := hide (HXp.out.alloc (.cells #[.int .i64 (-1),.int .i64 1000000,.int .i64 1000001] 2))
    have HL := hide (heap_new wp (.cells #[.int .i64 (-1),.int .i64 1000000,.int .i64 1000001] 2))
    rw [<- hwl] at HXl HL
    have HLT : Hid (p + 1 <= wp.heap.size) := by have h1 := HXp.out.lt; have h2 := HXp.out.pl; have h3 := (Array.getElem?_eq_some_iff.1 HXp.out.box).1; show _ <= _; omega
    go_wp2_with fail
    rw [<- hwl]
    refine (l1Below_any p 3 wl HXl.out.cur (by omega)).mono ?_
    rintro e wm ⟨q,rfl,q0,q1,cm,sm⟩
    obtain ⟨v,hv⟩ : ∃ v : Int,wm.cell? ⟨wp.heap.size,q.toNat,none⟩ = some (.int .i64 v) := by
     have hb := aside_bn sm HL.out (.inr HLT.out)
     have hq : q = 0  ∨ q = 1 ∨ q = 2 := by omega
     rcases hq with rfl | rfl | rfl
     ·exact ⟨(-1),by simp [World.cell?,hb]⟩
     ·exact ⟨1000000,by simp [World.cell?,hb]⟩
     ·exact ⟨1000001,by simp [World.cell?,hb]⟩
    have hqq : q = (q.toNat : Int) := by omega
    obtain ⟨qn,hqn⟩ : ∃ qn,qn = q.toNat := ⟨_,rfl⟩
    rw [<- hqn] at hv hqq
    have hqlt : qn < 3 := by omega
    clear hqn
    subst hqq
    have HXm := hide (HXl.out.on cm sm)
    clear cm sm HXl HL HLT HXp hwl q0 q1
    obtain ⟨⟨k0,k1,k2,k3,k4,k5,k6⟩,g0,g1,g2,g3,g4,g5,g6⟩ := HXm.out.cells
    dsimp only at k0 k1 k2 k3 k4 k5 k6
    have HXn := hide (HXm.out.setE v)
    dsimp only at HXn
    go_upto_region 18 with fail
    obtain ⟨wn,hst⟩ : ∃ W',W' = wm.setCell ⟨N,2,none⟩ (.int .i64 v) := ⟨_,rfl⟩
    rw [<- hst] at HXn ⊢
    clear hst HXm hv k0 k1 k2 k3 k4 k5 k6 g0 g1 g2 g3 g4 g5 g6
    obtain ⟨wz,hwz,hkz,hpz,f0,f1,f2,f3,f4,f5,f6,e0,e1,e2,e3,e4,e5,e6,d0,d1,d2,d3,d4,d5,d6⟩ := HXn.out.fin ⟨HSZ.out.1,HSZ.out.2.1,HSZ.out.2.2⟩
    dsimp only at hwz hkz hpz
    rw [show ([] : List ByteArray).length = 0 from rfl] at hwz hkz hpz
    obtain ⟨⟨k0,k1,k2,k3,k4,k5,k6⟩,g0,g1,g2,g3,g4,g5,g6⟩ := HXn.out.cells
    dsimp only at k0 k1 k2 k3 k4 k5 k6
    go_wp2_with fail
    rw [<- hwz]
    exact bodyPost_ret (results_cell rfl rfl (run_loadVar_row _ _ _ _ _ _ _ hkz Tryd.underlying26 rfl (by kernel_rfl))) rfl hpz
   ·go_wp2_with fail
    refine (l1Below_any p 2 wp HXp.out.cur (by omega)).mono ?_
    rintro e wq ⟨j,rfl,j0,j1,cq,sq⟩
    have HXq := hide (HXp.out.on cq sq)
    clear cq sq HXp
    obtain ⟨M,hM⟩ : ∃ M : Nat,IntKind.i64.wrap (24 + j) = (M : Int) := ⟨(24 + j).toNat,by rw [IntKind.wrap_i64]; omega⟩
    have hM2 : M <= 25 := by rw [IntKind.wrap_i64] at hM; omega
    obtain ⟨O,tz,htz,hmk,hcv⟩ := text_zeroN M (by omega)
    obtain ⟨wy,hwy⟩ : ∃ wy,wy = wq.alloc O := ⟨_,rfl⟩
    have HXy := hide (HXq.out.alloc O)
    have hcy := hcv wy wq.heap.size (by rw [hwy]; exact heap_new _ _)
    have hmy := hmk wq
    rw [<- hwy] at HXy hmy
    clear hmk hcv hwy
    obtain ⟨⟨k0,k1,k2,k3,k4,k5,k6⟩,g0,g1,g2,g3,g4,g5,g6⟩ := HXy.out.cells
    dsimp only at k0 k1 k2 k3 k4 k5 k6
    have HXn := hide (HXy.out.setX tz)
    dsimp only at HXn
    have HTZ : Hid (tz.size <= 30) := by show _ <= _; omega
    go_upto_region 18 with fail
    obtain ⟨wn,hst⟩ : ∃ W',W' = wy.setCell ⟨N,5,none⟩ (.string tz) := ⟨_,rfl⟩
    rw [<- hst] at HXn ⊢
    clear hst HXy HXq hcy hmy k0 k1 k2 k3 k4 k5 k6 g0 g1 g2 g3 g4 g5 g6
    obtain ⟨wz,hwz,hkz,hpz,f0,f1,f2,f3,f4,f5,f6,e0,e1,e2,e3,e4,e5,e6,d0,d1,d2,d3,d4,d5,d6⟩ := HXn.out.fin ⟨HSZ.out.1,HTZ.out,HSZ.out.2.2⟩
    dsimp only at hwz hkz hpz
    rw [show ([] : List ByteArray).length = 0 from rfl] at hwz hkz hpz
    obtain ⟨⟨k0,k1,k2,k3,k4,k5,k6⟩,g0,g1,g2,g3,g4,g5,g6⟩ := HXn.out.cells
    dsimp only at k0 k1 k2 k3 k4 k5 k6
    go_wp2_with fail
    rw [<- hwz]
    exact bodyPost_ret (results_cell rfl rfl (run_loadVar_row _ _ _ _ _ _ _ hkz Tryd.underlying26 rfl (by kernel_rfl))) rfl hpz
 ·obtain ⟨w5,hw5⟩ : ∃ w5,w5 = w4.alloc (.cells #[.int .i64 2,.int .i64 y,.int .i64 z,.int .i64 u,.int .i64 0,.string ⟨#[]⟩,.slice none 0 0] 26) := ⟨_,rfl⟩
  have HX5 := HMK 2
  rw [<- hw5] at HX5
  obtain ⟨⟨k0,k1,k2,k3,k4,k5,k6⟩,g0,g1,g2,g3,g4,g5,g6⟩ := HX5.out.cells
  dsimp only at k0 k1 k2 k3 k4 k5 k6
  go_upto_region 2 with fail
  rw [<- hw5,<- hN]
  clear hw5 HMK hN
  go_wp2_with fail
  refine (drawText_any p 3 w5 HX5.out.cur (by omega) (by omega)).mono ?_
  rintro e w6 ⟨t,rfl,ht,c6,s6⟩
  have HX6 := hide (HX5.out.on c6 s6)
  clear c6 s6 HX5 k0 k1 k2 k3 k4 k5 k6 g0 g1 g2 g3 g4 g5 g6
  go_wp2_with fail
  refine (drawText_any p 3 w6 HX6.out.cur (by omega) (by omega)).mono ?_
  rintro e w7 ⟨t',rfl,ht',c7,s7⟩
  have HX7 := hide (HX6.out.on c7 s7)
  clear c7 s7 HX6
  have HX8 := hide (HX7.out.alloc (.cells #[.string t,.string ⟨#[]⟩,.string t'] 9))
  have HR8 := hide (heap_new w7 (.cells #[.string t,.string ⟨#[]⟩,.string t'] 9))
  have HV : Hid (∃ hi,Texts (N + 1) hi (w7.alloc (.cells #[.string t,.string ⟨#[]⟩,.string t'] 9)) (some ⟨w7.heap.size,0,none⟩) 3 [t,⟨#[]⟩,t']) := by
   have h8 := HR8.out
   have h1 := (Array.getElem?_eq_some_iff.1 HX7.out.box).1
   have h2 := (Array.getElem?_eq_some_iff.1 h8).1
   refine ⟨_,rfl,Nat.le_refl _,fun _ => ⟨w7.heap.size,0,rfl,by omega,h2,fun i hi => ?_⟩⟩
   rcases (by omega : i = 0 ∨ i = 1 ∨ i = 2) with rfl | rfl | rfl
   all_goals (unfold World.cell?; rw [h8]; rfl)
  have HTT : Hid (t.size <= 30 ∧ t'.size <= 30) := ⟨by omega,by omega⟩
  clear HX7 HR8
  obtain ⟨⟨k0,k1,k2,k3,k4,k5,k6⟩,g0,g1,g2,g3,g4,g5,g6⟩ := HX8.out.cells
  dsimp only at k0 k1 k2 k3 k4 k5 k6
  have HX9 := hide (HX8.out.setV (some ⟨w7.heap.size,0,none⟩) 3 [t,⟨#[]⟩,t'] HV.out (Nat.le_refl _))
  dsimp only at HX9
  rw [show ([] : List ByteArray).length = 0 from rfl] at k6
  go_upto_region 8 with fail
  obtain ⟨w9,hst⟩ : ∃ W',W' = (w7.alloc (.cells #[.string t,.string ⟨#[]⟩,.string t'] 9)).setCell ⟨N,6,none⟩ (.slice (some ⟨w7.heap.size,0,none⟩) 3 3) := ⟨_,rfl⟩
  rw [show [t,(⟨#[]⟩ : ByteArray),t'].length = 3 from rfl,<- hst] at HX9
  rw [<- hst]
  clear hst HX8 HV k0 k1 k2 k3 k4 k5 k6 g0 g1 g2 g3 g4 g5 g6
  go_wp2_with fail
  have HSZ : Hid (NtSz ⟨2,y,z,u,0,⟨#[]⟩,[t,⟨#[]⟩,t']⟩) := ⟨by simp,by simp [ByteArray.size],by intro v hv; simp only [List.mem_cons,List.not_mem_nil,or_false] at hv; rcases hv with rfl | rfl | rfl; exact HTT.out.1; simp [ByteArray.size]; exact HTT.out.2⟩
  refine (l1Once_any p 14 w9 HX9.out.cur (by omega)).mono ?_
  rintro e wo ⟨b,rfl,co,so⟩
  have HXo := hide (HX9.out.on co so)
  clear co so HX9
  cases b with
  | false =>
   obtain ⟨wz,hwz,hkz,hpz,f0,f1,f2,f3,f4,f5,f6,e0,e1,e2,e3,e4,e5,e6,d0,d1,d2,d3,d4,d5,d6⟩ := HXo.out.fin HSZ.out
   dsimp only at hwz hkz hpz
   rw [show ([t,⟨#[]⟩,t'] : List ByteArray).length = 3 from rfl] at hwz hkz hpz
   obtain ⟨⟨k0,k1,k2,k3,k4,k5,k6⟩,g0,g1,g2,g3,g4,g5,g6⟩ := HXo.out.cells
   dsimp only at k0 k1 k2 k3 k4 k5 k6
   go_wp2_with fail
   rw [<- hwz]
   exact bodyPost_ret (results_cell rfl rfl (run_loadVar_row _ _ _ _ _ _ _ hkz Tryd.underlying26 rfl (by kernel_rfl))) rfl hpz
  | true =>
   go_wp2_with fail
   refine (l1Below_any p 4 wo HXo.out.cur (by omega)).mono ?_
   rintro e wp ⟨j,rfl,j0,j1,cp,sp⟩
   have HXp := hide (HXo.out.on cp sp)
   clear cp sp HXo
   have hj : j = 0 ∨ j = 1 ∨ j = 2 ∨ j = 3 := by omega
   clear j0 j1
   rcases hj with rfl | rfl | rfl | rfl
   ·obtain ⟨wl,hwl⟩ : ∃ wl,wl = wp.alloc (.cells #[.int .i64 0,.int .i64 4,.int .i64 (-1)] 2) := ⟨_,rfl⟩
    have HXl := hide (HXp.out.alloc (.cells #[.int .i64 0,.int .i64 4,.int .i64 (-1)] 2))
    have HL := hide (heap_new wp (.cells #[.int .i64 0,.int .i64 4,.int .i64 (-1)] 2))
    rw [<- hwl] at HXl HL
    have HLT : Hid (p + 1 <= wp.heap.size) := by have h1 := HXp.out.lt; have h2 := HXp.out.pl; have h3 := (Array.getElem?_eq_some_iff.1 HXp.out.box).1; show _ <= _; omega
    go_wp2_with fail
    rw [<- hwl]
    refine (l1Below_any p 3 wl HXl.out.cur (by omega)).mono ?_
    rintro e wm ⟨q,rfl,q0,q1,cm,sm⟩
    obtain ⟨v,hv⟩ : ∃ v : Int,wm.cell? ⟨wp.heap.size,q.toNat,none⟩ = some (.int .i64 v) := by
     have hb := aside_bn sm HL.out (.inr HLT.out)
     have hq : q = 0  ∨ q = 1 ∨ q = 2 := by omega
     rcases hq with rfl | rfl | rfl
     ·exact ⟨0,by simp [World.cell?,hb]⟩
     ·exact ⟨4,by simp [World.cell?,hb]⟩
     ·exact ⟨(-1),by simp [World.cell?,hb]⟩
    have hqq : q = (q.toNat : Int) := by omega
    obtain ⟨qn,hqn⟩ : ∃ qn,qn = q.toNat := ⟨_,rfl⟩
    rw [<- hqn] at hv hqq
    have hqlt : qn < 3 := by omega
    clear hqn
    subst hqq
    have HXm := hide (HXl.out.on cm sm)
    clear cm sm HXl HL HLT HXp hwl q0 q1
    obtain ⟨⟨k0,k1,k2,k3,k4,k5,k6⟩,g0,g1,g2,g3,g4,g5,g6⟩ := HXm.out.cells
    dsimp only at k0 k1 k2 k3 k4 k5 k6
    have HXn := hide (HXm.out.setK v)
    dsimp only at HXn
    go_upto_region 18 with fail
    obtain ⟨wn,hst⟩ : ∃ W',W' = wm.setCell ⟨N,0,none⟩ (.int .i64 v) := ⟨_,rfl⟩
    rw [<- hst] at HXn ⊢
    clear hst HXm hv k0 k1 k2 k3 k4 k5 k6 g0 g1 g2 g3 g4 g5 g6
    obtain ⟨wz,hwz,hkz,hpz,f0,f1,f2,f3,f4,f5,f6,e0,e1,e2,e3,e4,e5,e6,d0,d1,d2,d3,d4,d5,d6⟩ := HXn.out.fin ⟨HSZ.out.1,HSZ.out.2.1,HSZ.out.2.2⟩
    dsimp only at hwz hkz hpz
    rw [show ([t,⟨#[]⟩,t'] : List ByteArray).length = 3 from rfl] at hwz hkz hpz
    obtain ⟨⟨k0,k1,k2,k3,k4,k5,k6⟩,g0,g1,g2,g3,g4,g5,g6⟩ := HXn.out.cells
    dsimp only at k0 k1 k2 k3 k4 k5 k6
    go_wp2_with fail
    rw [<- hwz]
    exact bodyPost_ret (results_cell rfl rfl (run_loadVar_row _ _ _ _ _ _ _ hkz Tryd.underlying26 rfl (by kernel_rfl))) rfl hpz
   ·obtain ⟨wl,hwl⟩ : ∃ wl,wl = wp.alloc (.cells #[.int .i64 (-1),.int .i64 2] 2) := ⟨_,rfl⟩
    have HXl := hide (HXp.out.alloc (.cells #[.int .i64 (-1),.int .i64 2] 2))
    have HL := hide (heap_new wp (.cells #[.int .i64 (-1),.int .i64 2] 2))
    rw [<- hwl] at HXl HL
    have HLT : Hid (p + 1 <= wp.heap.size) := by have h1 := HXp.out.lt; have h2 := HXp.out.pl; have h3 := (Array.getElem?_eq_some_iff.1 HXp.out.box).1; show _ <= _; omega
    go_wp2_with fail
    rw [<- hwl]
    refine (l1Below_any p 2 wl HXl.out.cur (by omega)).mono ?_
    rintro e wm ⟨q,rfl,q0,q1,cm,sm⟩
    obtain ⟨v,hv⟩ : ∃ v : Int,wm.cell? ⟨wp.heap.size,q.toNat,none⟩ = some (.int .i64 v) := by
     have hb := aside_bn sm HL.out (.inr HLT.out)
     have hq : q = 0  ∨ q = 1 := by omega
     rcases hq with rfl | rfl
     ·exact ⟨(-1),by simp [World.cell?,hb]⟩
     ·exact ⟨2,by simp [World.cell?,hb]⟩
    have hqq : q = (q.toNat : Int) := by omega
    obtain ⟨qn,hqn⟩ : ∃ qn,qn = q.toNat := ⟨_,rfl⟩
    rw [<- hqn] at hv hqq
    have hqlt : qn < 2 := by omega
    clear hqn
    subst hqq
    have HXm := hide (HXl.out.on cm sm)
    clear cm sm HXl HL HLT HXp hwl q0 q1
    obtain ⟨⟨k0,k1,k2,k3,k4,k5,k6⟩,g0,g1,g2,g3,g4,g5,g6⟩ := HXm.out.cells
    dsimp only at k0 k1 k2 k3 k4 k5 k6
    have HXn := hide (HXm.out.setT v)
    dsimp only at HXn
    go_upto_region 18 with fail
    obtain ⟨wn,hst⟩ : ∃ W',W' = wm.setCell ⟨N,1,none⟩ (.int .i64 v) := ⟨_,rfl⟩
    rw [<- hst] at HXn ⊢
    clear hst HXm hv k0 k1 k2 k3 k4 k5 k6 g0 g1 g2 g3 g4 g5 g6
    obtain ⟨wz,hwz,hkz,hpz,f0,f1,f2,f3,f4,f5,f6,e0,e1,e2,e3,e4,e5,e6,d0,d1,d2,d3,d4,d5,d6⟩ := HXn.out.fin ⟨HSZ.out.1,HSZ.out.2.1,HSZ.out.2.2⟩
    dsimp only at hwz hkz hpz
    rw [show ([t,⟨#[]⟩,t'] : List ByteArray).length = 3 from rfl] at hwz hkz hpz
    obtain ⟨⟨k0,k1,k2,k3,k4,k5,k6⟩,g0,g1,g2,g3,g4,g5,g6⟩ := HXn.out.cells
    dsimp only at k0 k1 k2 k3 k4 k5 k6
    go_wp2_with fail
    rw [<- hwz]
    exact bodyPost_ret (results_cell rfl rfl (run_loadVar_row _ _ _ _ _ _ _ hkz Tryd.underlying26 rfl (by kernel_rfl))) rfl hpz
   ·obtain ⟨wl,hwl⟩ : ∃ wl,wl = wp.alloc (.cells #[.int .i64 (-1),.int .i64 1000000,.int .i64 1000001] 2) := ⟨_,rfl⟩
    have HXl := hide (HXp.out.alloc (.cells #[.int .i64 (-1),.int .i64 1000000,.int .i64 1000001] 2))
    have HL := hide (heap_new wp (.cells #[.int .i64 (-1),.int .i64 1000000,.int .i64 1000001] 2))
    rw [<- hwl] at HXl HL
    have HLT : Hid (p + 1 <= wp.heap.size) := by have h1 := HXp.out.lt; have h2 := HXp.out.pl; have h3 := (Array.getElem?_eq_some_iff.1 HXp.out.box).1; show _ <= _; omega
    go_wp2_with fail
    rw [<- hwl]
    refine (l1Below_any p 3 wl HXl.out.cur (by omega)).mono ?_
    rintro e wm ⟨q,rfl,q0,q1,cm,sm⟩
    obtain ⟨v,hv⟩ : ∃ v : Int,wm.cell? ⟨wp.heap.size,q.toNat,none⟩ = some (.int .i64 v) := by
     have hb := aside_bn sm HL.out (.inr HLT.out)
     have hq : q = 0  ∨ q = 1 ∨ q = 2 := by omega
     rcases hq with rfl | rfl | rfl
     ·exact ⟨(-1),by simp [World.cell?,hb]⟩
     ·exact ⟨1000000,by simp [World.cell?,hb]⟩
     ·exact ⟨1000001,by simp [World.cell?,hb]⟩
    have hqq : q = (q.toNat : Int) := by omega
    obtain ⟨qn,hqn⟩ : ∃ qn,qn = q.toNat := ⟨_,rfl⟩
    rw [<- hqn] at hv hqq
    have hqlt : qn < 3 := by omega
    clear hqn
    subst hqq
    have HXm := hide (HXl.out.on cm sm)
    clear cm sm HXl HL HLT HXp hwl q0 q1
    obtain ⟨⟨k0,k1,k2,k3,k4,k5,k6⟩,g0,g1,g2,g3,g4,g5,g6⟩ := HXm.out.cells
    dsimp only at k0 k1 k2 k3 k4 k5 k6
    have HXn := hide (HXm.out.setE v)
    dsimp only at HXn
    go_upto_region 18 with fail
    obtain ⟨wn,hst⟩ : ∃ W',W' = wm.setCell ⟨N,2,none⟩ (.int .i64 v) := ⟨_,rfl⟩
    rw [<- hst] at HXn ⊢
    clear hst HXm hv k0 k1 k2 k3 k4 k5 k6 g0 g1 g2 g3 g4 g5 g6
    obtain ⟨wz,hwz,hkz,hpz,f0,f1,f2,f3,f4,f5,f6,e0,e1,e2,e3,e4,e5,e6,d0,d1,d2,d3,d4,d5,d6⟩ := HXn.out.fin ⟨HSZ.out.1,HSZ.out.2.1,HSZ.out.2.2⟩
    dsimp only at hwz hkz hpz
    rw [show ([t,⟨#[]⟩,t'] : List ByteArray).length = 3 from rfl] at hwz hkz hpz
    obtain ⟨⟨k0,k1,k2,k3,k4,k5,k6⟩,g0,g1,g2,g3,g4,g5,g6⟩ := HXn.out.cells
    dsimp only at k0 k1 k2 k3 k4 k5 k6
    go_wp2_with fail
    rw [<- hwz]
    exact bodyPost_ret (results_cell rfl rfl (run_loadVar_row _ _ _ _ _ _ _ hkz Tryd.underlying26 rfl (by kernel_rfl))) rfl hpz
   ·go_wp2_with fail
    refine (l1Below_any p 2 wp HXp.out.cur (by omega)).mono ?_
    rintro e wq ⟨j,rfl,j0,j1,cq,sq⟩
    have HXq := hide (HXp.out.on cq sq)
    clear cq sq HXp
    obtain ⟨M,hM⟩ : ∃ M : Nat,IntKind.i64.wrap (24 + j) = (M : Int) := ⟨(24 + j).toNat,by rw [IntKind.wrap_i64]; omega⟩
    have hM2 : M <= 25 := by rw [IntKind.wrap_i64] at hM; omega
    obtain ⟨O,tz,htz,hmk,hcv⟩ := text_zeroN M (by omega)
    obtain ⟨wy,hwy⟩ : ∃ wy,wy = wq.alloc O := ⟨_,rfl⟩
    have HXy := hide (HXq.out.alloc O)
    have hcy := hcv wy wq.heap.size (by rw [hwy]; exact heap_new _ _)
    have hmy := hmk wq
    rw [<- hwy] at HXy hmy
    clear hmk hcv hwy
    obtain ⟨⟨k0,k1,k2,k3,k4,k5,k6⟩,g0,g1,g2,g3,g4,g5,g6⟩ := HXy.out.cells
    dsimp only at k0 k1 k2 k3 k4 k5 k6
    have HXn := hide (HXy.out.setX tz)
    dsimp only at HXn
    have HTZ : Hid (tz.size <= 30) := by show _ <= _; omega
    go_upto_region 18 with fail
    obtain ⟨wn,hst⟩ : ∃ W',W' = wy.setCell ⟨N,5,none⟩ (.string tz) := ⟨_,rfl⟩
    rw [<- hst] at HXn ⊢
    clear hst HXy HXq hcy hmy k0 k1 k2 k3 k4 k5 k6 g0 g1 g2 g3 g4 g5 g6
    obtain ⟨wz,hwz,hkz,hpz,f0,f1,f2,f3,f4,f5,f6,e0,e1,e2,e3,e4,e5,e6,d0,d1,d2,d3,d4,d5,d6⟩ := HXn.out.fin ⟨HSZ.out.1,HTZ.out,HSZ.out.2.2⟩
    dsimp only at hwz hkz hpz
    rw [show ([t,⟨#[]⟩,t'] : List ByteArray).length = 3 from rfl] at hwz hkz hpz
    obtain ⟨⟨k0,k1,k2,k3,k4,k5,k6⟩,g0,g1,g2,g3,g4,g5,g6⟩ := HXn.out.cells
    dsimp only at k0 k1 k2 k3 k4 k5 k6
    go_wp2_with fail
    rw [<- hwz]
    exact bodyPost_ret (results_cell rfl rfl (run_loadVar_row _ _ _ _ _ _ _ hkz Tryd.underlying26 rfl (by kernel_rfl))) rfl hpz
 ·obtain ⟨w5,hw5⟩ : ∃ w5,w5 = w4.alloc (.cells #[.int .i64 3,.int .i64 y,.int .i64 z,.int .i64 u,.int .i64 0,.string ⟨#[]⟩,.slice none 0 0] 26) := ⟨_,rfl⟩
  have HX5 := HMK 3
  rw [<- hw5] at HX5
  obtain ⟨⟨k0,k1,k2,k3,k4,k5,k6⟩,g0,g1,g2,g3,g4,g5,g6⟩ := HX5.out.cells
  dsimp only at k0 k1 k2 k3 k4 k5 k6
  go_upto_region 2 with fail
  rw [<- hw5,<- hN]
  clear hw5 HMK hN
  clear k0 k1 k2 k3 k4 k5 k6 g0 g1 g2 g3 g4 g5 g6
  obtain ⟨⟨k0,k1,k2,k3,k4,k5,k6⟩,g0,g1,g2,g3,g4,g5,g6⟩ := HX5.out.cells
  dsimp only at k0 k1 k2 k3 k4 k5 k6
  go_wp2_with fail
  clear k0 k1 k2 k3 k4 k5 k6 g0 g1 g2 g3 g4 g5 g6
  have HSZ : Hid (NtSz ⟨3,y,z,u,0,⟨#[]⟩,[]⟩) := ⟨by simp,by simp [ByteArray.size],by simp⟩
  refine (l1Once_any p 14 w5 HX5.out.cur (by omega)).mono ?_
  rintro e wo ⟨b,rfl,co,so⟩
  have HXo := hide (HX5.out.on co so)
  clear co so HX5
  cases b with
  | false =>
   obtain ⟨wz,hwz,hkz,hpz,f0,f1,f2,f3,f4,f5,f6,e0,e1,e2,e3,e4,e5,e6,d0,d1,d2,d3,d4,d5,d6⟩ := HXo.out.fin HSZ.out
   dsimp only at hwz hkz hpz
   rw [show ([] : List ByteArray).length = 0 from rfl] at hwz hkz hpz
   obtain ⟨⟨k0,k1,k2,k3,k4,k5,k6⟩,g0,g1,g2,g3,g4,g5,g6⟩ := HXo.out.cells
   dsimp only at k0 k1 k2 k3 k4 k5 k6
   go_wp2_with fail
   rw [<- hwz]
   exact bodyPost_ret (results_cell rfl rfl (run_loadVar_row _ _ _ _ _ _ _ hkz Tryd.underlying26 rfl (by kernel_rfl))) rfl hpz
  | true =>
   go_wp2_with fail
   refine (l1Below_any p 4 wo HXo.out.cur (by omega)).mono ?_
   rintro e wp ⟨j,rfl,j0,j1,cp,sp⟩
   have HXp := hide (HXo.out.on cp sp)
   clear cp sp HXo
   have hj : j = 0 ∨ j = 1 ∨ j = 2 ∨ j = 3 := by omega
   clear j0 j1
   rcases hj with rfl | rfl | rfl | rfl
   ·obtain ⟨wl,hwl⟩ : ∃ wl,wl = wp.alloc (.cells #[.int .i64 0,.int .i64 4,.int .i64 (-1)] 2) := ⟨_,rfl⟩
    have HXl := hide (HXp.out.alloc (.cells #[.int .i64 0,.int .i64 4,.int .i64 (-1)] 2))
    have HL := hide (heap_new wp (.cells #[.int .i64 0,.int .i64 4,.int .i64 (-1)] 2))
    rw [<- hwl] at HXl HL
    have HLT : Hid (p + 1 <= wp.heap.size) := by have h1 := HXp.out.lt; have h2 := HXp.out.pl; have h3 := (Array.getElem?_eq_some_iff.1 HXp.out.box).1; show _ <= _; omega
    go_wp2_with fail
    rw [<- hwl]
    refine (l1Below_any p 3 wl HXl.out.cur (by omega)).mono ?_
    rintro e wm ⟨q,rfl,q0,q1,cm,sm⟩
    obtain ⟨v,hv⟩ : ∃ v : Int,wm.cell? ⟨wp.heap.size,q.toNat,none⟩ = some (.int .i64 v) := by
     have hb := aside_bn sm HL.out (.inr HLT.out)
     have hq : q = 0  ∨ q = 1 ∨ q = 2 := by omega
     rcases hq with rfl | rfl | rfl
     ·exact ⟨0,by simp [World.cell?,hb]⟩
     ·exact ⟨4,by simp [World.cell?,hb]⟩
     ·exact ⟨(-1),by simp [World.cell?,hb]⟩
    have hqq : q = (q.toNat : Int) := by omega
    obtain ⟨qn,hqn⟩ : ∃ qn,qn = q.toNat := ⟨_,rfl⟩
    rw [<- hqn] at hv hqq
    have hqlt : qn < 3 := by omega
    clear hqn
    subst hqq
    have HXm := hide (HXl.out.on cm sm)
    clear cm sm HXl HL HLT HXp hwl q0 q1
    obtain ⟨⟨k0,k1,k2,k3,k4,k5,k6⟩,g0,g1,g2,g3,g4,g5,g6⟩ := HXm.out.cells
    dsimp only at k0 k1 k2 k3 k4 k5 k6
    have HXn := hide (HXm.out.setK v)
    dsimp only at HXn
    go_upto_region 18 with fail
    obtain ⟨wn,hst⟩ : ∃ W',W' = wm.setCell ⟨N,0,none⟩ (.int .i64 v) := ⟨_,rfl⟩
    rw [<- hst] at HXn ⊢
    clear hst HXm hv k0 k1 k2 k3 k4 k5 k6 g0 g1 g2 g3 g4 g5 g6
    obtain ⟨wz,hwz,hkz,hpz,f0,f1,f2,f3,f4,f5,f6,e0,e1,e2,e3,e4,e5,e6,d0,d1,d2,d3,d4,d5,d6⟩ := HXn.out.fin ⟨HSZ.out.1,HSZ.out.2.1,HSZ.out.2.2⟩
    dsimp only at hwz hkz hpz
    rw [show ([] : List ByteArray).length = 0 from rfl] at hwz hkz hpz
    obtain ⟨⟨k0,k1,k2,k3,k4,k5,k6⟩,g0,g1,g2,g3,g4,g5,g6⟩ := HXn.out.cells
    dsimp only at k0 k1 k2 k3 k4 k5 k6
    go_wp2_with fail
    rw [<- hwz]
    exact bodyPost_ret (results_cell rfl rfl (run_loadVar_row _ _ _ _ _ _ _ hkz Tryd.underlying26 rfl (by kernel_rfl))) rfl hpz
   ·obtain ⟨wl,hwl⟩ : ∃ wl,wl = wp.alloc (.cells #[.int .i64 (-1),.int .i64 2] 2) := ⟨_,rfl⟩
    have HXl := hide (HXp.out.alloc (.cells #[.int .i64 (-1),.int .i64 2] 2))
    have HL := hide (heap_new wp (.cells #[.int .i64 (-1),.int .i64 2] 2))
    rw [<- hwl] at HXl HL
    have HLT : Hid (p + 1 <= wp.heap.size) := by have h1 := HXp.out.lt; have h2 := HXp.out.pl; have h3 := (Array.getElem?_eq_some_iff.1 HXp.out.box).1; show _ <= _; omega
    go_wp2_with fail
    rw [<- hwl]
    refine (l1Below_any p 2 wl HXl.out.cur (by omega)).mono ?_
    rintro e wm ⟨q,rfl,q0,q1,cm,sm⟩
    obtain ⟨v,hv⟩ : ∃ v : Int,wm.cell? ⟨wp.heap.size,q.toNat,none⟩ = some (.int .i64 v) := by
     have hb := aside_bn sm HL.out (.inr HLT.out)
     have hq : q = 0  ∨ q = 1 := by omega
     rcases hq with rfl | rfl
     ·exact ⟨(-1),by simp [World.cell?,hb]⟩
     ·exact ⟨2,by simp [World.cell?,hb]⟩
    have hqq : q = (q.toNat : Int) := by omega
    obtain ⟨qn,hqn⟩ : ∃ qn,qn = q.toNat := ⟨_,rfl⟩
    rw [<- hqn] at hv hqq
    have hqlt : qn < 2 := by omega
    clear hqn
    subst hqq
    have HXm := hide (HXl.out.on cm sm)
    clear cm sm HXl HL HLT HXp hwl q0 q1
    obtain ⟨⟨k0,k1,k2,k3,k4,k5,k6⟩,g0,g1,g2,g3,g4,g5,g6⟩ := HXm.out.cells
    dsimp only at k0 k1 k2 k3 k4 k5 k6
    have HXn := hide (HXm.out.setT v)
    dsimp only at HXn
    go_upto_region 18 with fail
    obtain ⟨wn,hst⟩ : ∃ W',W' = wm.setCell ⟨N,1,none⟩ (.int .i64 v) := ⟨_,rfl⟩
    rw [<- hst] at HXn ⊢
    clear hst HXm hv k0 k1 k2 k3 k4 k5 k6 g0 g1 g2 g3 g4 g5 g6
    obtain ⟨wz,hwz,hkz,hpz,f0,f1,f2,f3,f4,f5,f6,e0,e1,e2,e3,e4,e5,e6,d0,d1,d2,d3,d4,d5,d6⟩ := HXn.out.fin ⟨HSZ.out.1,HSZ.out.2.1,HSZ.out.2.2⟩
    dsimp only at hwz hkz hpz
    rw [show ([] : List ByteArray).length = 0 from rfl] at hwz hkz hpz
    obtain ⟨⟨k0,k1,k2,k3,k4,k5,k6⟩,g0,g1,g2,g3,g4,g5,g6⟩ := HXn.out.cells
    dsimp only at k0 k1 k2 k3 k4 k5 k6
    go_wp2_with fail
    rw [<- hwz]
    exact bodyPost_ret (results_cell rfl rfl (run_loadVar_row _ _ _ _ _ _ _ hkz Tryd.underlying26 rfl (by kernel_rfl))) rfl hpz
   ·obtain ⟨wl,hwl⟩ : ∃ wl,wl = wp.alloc (.cells #[.int .i64 (-1),.int .i64 1000000,.int .i64 1000001] 2) := ⟨_,rfl⟩
    have HXl := hide (HXp.out.alloc (.cells #[.int .i64 (-1),.int .i64 1000000,.int .i64 1000001] 2))
    have HL := hide (heap_new wp (.cells #[.int .i64 (-1),.int .i64 1000000,.int .i64 1000001] 2))
    rw [<- hwl] at HXl HL
    have HLT : Hid (p + 1 <= wp.heap.size) := by have h1 := HXp.out.lt; have h2 := HXp.out.pl; have h3 := (Array.getElem?_eq_some_iff.1 HXp.out.box).1; show _ <= _; omega
    go_wp2_with fail
    rw [<- hwl]
    refine (l1Below_any p 3 wl HXl.out.cur (by omega)).mono ?_
    rintro e wm ⟨q,rfl,q0,q1,cm,sm⟩
    obtain ⟨v,hv⟩ : ∃ v : Int,wm.cell? ⟨wp.heap.size,q.toNat,none⟩ = some (.int .i64 v) := by
     have hb := aside_bn sm HL.out (.inr HLT.out)
     have hq : q = 0  ∨ q = 1 ∨ q = 2 := by omega
     rcases hq with rfl | rfl | rfl
     ·exact ⟨(-1),by simp [World.cell?,hb]⟩
     ·exact ⟨1000000,by simp [World.cell?,hb]⟩
     ·exact ⟨1000001,by simp [World.cell?,hb]⟩
    have hqq : q = (q.toNat : Int) := by omega
    obtain ⟨qn,hqn⟩ : ∃ qn,qn = q.toNat := ⟨_,rfl⟩
    rw [<- hqn] at hv hqq
    have hqlt : qn < 3 := by omega
    clear hqn
    subst hqq
    have HXm := hide (HXl.out.on cm sm)
    clear cm sm HXl HL HLT HXp hwl q0 q1
    obtain ⟨⟨k0,k1,k2,k3,k4,k5,k6⟩,g0,g1,g2,g3,g4,g5,g6⟩ := HXm.out.cells
    dsimp only at k0 k1 k2 k3 k4 k5 k6
    have HXn := hide (HXm.out.setE v)
    dsimp only at HXn
    go_upto_region 18 with fail
    obtain ⟨wn,hst⟩ : ∃ W',W' = wm.setCell ⟨N,2,none⟩ (.int .i64 v) := ⟨_,rfl⟩
    rw [<- hst] at HXn ⊢
    clear hst HXm hv k0 k1 k2 k3 k4 k5 k6 g0 g1 g2 g3 g4 g5 g6
    obtain ⟨wz,hwz,hkz,hpz,f0,f1,f2,f3,f4,f5,f6,e0,e1,e2,e3,e4,e5,e6,d0,d1,d2,d3,d4,d5,d6⟩ := HXn.out.fin ⟨HSZ.out.1,HSZ.out.2.1,HSZ.out.2.2⟩
    dsimp only at hwz hkz hpz
    rw [show ([] : List ByteArray).length = 0 from rfl] at hwz hkz hpz
    obtain ⟨⟨k0,k1,k2,k3,k4,k5,k6⟩,g0,g1,g2,g3,g4,g5,g6⟩ := HXn.out.cells
    dsimp only at k0 k1 k2 k3 k4 k5 k6
    go_wp2_with fail
    rw [<- hwz]
    exact bodyPost_ret (results_cell rfl rfl (run_loadVar_row _ _ _ _ _ _ _ hkz Tryd.underlying26 rfl (by kernel_rfl))) rfl hpz
   ·go_wp2_with fail
    refine (l1Below_any p 2 wp HXp.out.cur (by omega)).mono ?_
    rintro e wq ⟨j,rfl,j0,j1,cq,sq⟩
    have HXq := hide (HXp.out.on cq sq)
    clear cq sq HXp
    obtain ⟨M,hM⟩ : ∃ M : Nat,IntKind.i64.wrap (24 + j) = (M : Int) := ⟨(24 + j).toNat,by rw [IntKind.wrap_i64]; omega⟩
    have hM2 : M <= 25 := by rw [IntKind.wrap_i64] at hM; omega
    obtain ⟨O,tz,htz,hmk,hcv⟩ := text_zeroN M (by omega)
    obtain ⟨wy,hwy⟩ : ∃ wy,wy = wq.alloc O := ⟨_,rfl⟩
    have HXy := hide (HXq.out.alloc O)
    have hcy := hcv wy wq.heap.size (by rw [hwy]; exact heap_new _ _)
    have hmy := hmk wq
    rw [<- hwy] at HXy hmy
    clear hmk hcv hwy
    obtain ⟨⟨k0,k1,k2,k3,k4,k5,k6⟩,g0,g1,g2,g3,g4,g5,g6⟩ := HXy.out.cells
    dsimp only at k0 k1 k2 k3 k4 k5 k6
    have HXn := hide (HXy.out.setX tz)
    dsimp only at HXn
    have HTZ : Hid (tz.size <= 30) := by show _ <= _; omega
    go_upto_region 18 with fail
    obtain ⟨wn,hst⟩ : ∃ W',W' = wy.setCell ⟨N,5,none⟩ (.string tz) := ⟨_,rfl⟩
    rw [<- hst] at HXn ⊢
    clear hst HXy HXq hcy hmy k0 k1 k2 k3 k4 k5 k6 g0 g1 g2 g3 g4 g5 g6
    obtain ⟨wz,hwz,hkz,hpz,f0,f1,f2,f3,f4,f5,f6,e0,e1,e2,e3,e4,e5,e6,d0,d1,d2,d3,d4,d5,d6⟩ := HXn.out.fin ⟨HSZ.out.1,HTZ.out,HSZ.out.2.2⟩
    dsimp only at hwz hkz hpz
    rw [show ([] : List ByteArray).length = 0 from rfl] at hwz hkz hpz
    obtain ⟨⟨k0,k1,k2,k3,k4,k5,k6⟩,g0,g1,g2,g3,g4,g5,g6⟩ := HXn.out.cells
    dsimp only at k0 k1 k2 k3 k4 k5 k6
    go_wp2_with fail
    rw [<- hwz]
    exact bodyPost_ret (results_cell rfl rfl (run_loadVar_row _ _ _ _ _ _ _ hkz Tryd.underlying26 rfl (by kernel_rfl))) rfl hpz
def NoteGiven (w : World) (e : Ending) (w' : World) : Prop := ∃ (x : Nt) (av : Option Addr) (c : Nat),e = .returned (noteV x av x.vs.length c) ∧ NtSz x ∧ x.vs.length <= c ∧ Texts w.heap.size w'.heap.size w' av x.vs.length x.vs ∧ Below w.heap.size w w'
theorem note_stored {w W : World} {x : Nt} {av : Option Addr} {c : Nat} {lo hi : Nat} {c0 c1 c2 c3 c4 c5 c6 : Value} (hr : W.heap[w.heap.size]? = some (.cells #[c0,c1,c2,c3,c4,c5,c6] 26)) (hb : Below w.heap.size w W) (ht : Texts lo hi W av x.vs.length x.vs) (hlo : w.heap.size + 1 <= lo) (hx : NtSz x) (hc : x.vs.length <= c) :
  ∃ W',W' = (((((((W.setCell ⟨w.heap.size,0,none⟩ (.int .i64 x.k)).setCell ⟨w.heap.size,1,none⟩ (.int .i64 x.tt)).setCell ⟨w.heap.size,2,none⟩ (.int .i64 x.e)).setCell ⟨w.heap.size,3,none⟩ (.int .i64 x.s)).setCell ⟨w.heap.size,4,none⟩ (.int .i64 x.a)).setCell ⟨w.heap.size,5,none⟩ (.string x.tx)).setCell ⟨w.heap.size,6,none⟩ (.slice av x.vs.length c)) ∧
  W'.heap[w.heap.size]? = some (.cells #[.int .i64 x.k,.int .i64 x.tt,.int .i64 x.e,.int .i64 x.s,.int .i64 x.a,.string x.tx,.slice av x.vs.length c] 26) ∧ NoteGiven w (.returned (noteV x av x.vs.length c)) W' := by
 have hA := note_aside (Aside.refl w.heap.size (w.heap.size + 1) W) (Nat.le_refl _) (Nat.lt_succ_self _) (.int .i64 x.k) (.int .i64 x.tt) (.int .i64 x.e) (.int .i64 x.s) (.int .i64 x.a) (.string x.tx) (.slice av x.vs.length c)
 have hT := ht.aside hA (.inr hlo)
 exact ⟨_,rfl,note_set hr _ _ _ _ _ _ _,x,av,c,rfl,hx,hc,⟨hT.1,reads_wide hT.2 (by omega) hT.2.1 (Nat.le_refl _)⟩,hb.trans (hA.below (Nat.le_refl _) hb.size)⟩
set_option maxHeartbeats 1600000 in
theorem drawNoteOk_any (a : Option Addr) (n cap : Nat) (l : List UInt8) (w : World) {lo hi : Nat} (hB : Bytes lo hi w a n l) (hhi : hi <= w.heap.size) (hn : n <= 4096) :
  Calls Tryd.prog 46 #[.slice a n cap] w (NoteGiven w) := by
 obtain ⟨wA,hwA⟩ : ∃ wA,wA = w.alloc (.cells #[.int .i64 0,.int .i64 0,.int .i64 0,.int .i64 0,.int .i64 0,.string ⟨#[]⟩,.slice none 0 0] 26) := ⟨_,rfl⟩
 have HBA : Hid (Below w.heap.size w wA) := by rw [hwA]; exact (Below.refl _ _).alloc (Nat.le_refl _) _
 have HKA : Hid (wA.heap[w.heap.size]? = some (.cells #[.int .i64 0,.int .i64 0,.int .i64 0,.int .i64 0,.int .i64 0,.string ⟨#[]⟩,.slice none 0 0] 26)) := by rw [hwA]; exact heap_new _ _
 have HB := hide (hB.later HBA.out hhi)
 clear hB
 go_enter Tryd.func46,Tryd.ntmps46
 go_wp2_with fail
 rw [<- hwA]
 clear hwA
 refine (l1New_any a n cap l wA HB.out hn).mono ?_
 rintro e w1 ⟨p,rfl,hp,c1,b1⟩
 have HK1 := hide (block_on HKA.out b1)
 have HB1 := hide (below_here HBA.out b1)
 have hpA := (Array.getElem?_eq_some_iff.1 HKA.out).1
 clear b1 HKA HBA HB
 go_wp2_with fail
 refine (l15Draw_any p w1 c1).mono ?_
 rintro e w2 ⟨x,av,c,rfl,h3,hc,htx,hts,ht,c2,s2⟩
 have hs1 := (Array.getElem?_eq_some_iff.1 HK1.out).1
 have HK2 := hide (aside_bn s2 HK1.out (by omega))
 obtain ⟨wz,hwz,hkz,hpz⟩ := note_stored HK2.out (HB1.out.trans (s2.below (B := w.heap.size) (by omega) (by omega))) ht (by omega) ⟨h3,htx,hts⟩ hc
 obtain ⟨d0,d1,d2,d3,d4,d5,d6⟩ := note_cells HK2.out
 obtain ⟨f0,f1,f2,f3,f4,f5,f6⟩ : _ ∧ _ ∧ _ ∧ _ ∧ _ ∧ _ ∧ _ := ⟨four_frozen HK2.out 0,four_frozen HK2.out 1,four_frozen HK2.out 2,four_frozen HK2.out 3,four_frozen HK2.out 4,four_frozen HK2.out 5,four_frozen HK2.out 6⟩
 clear s2 ht c2 c1 hpA hs1 hp
 unfold noteV
 go_wp2_with fail
 rw [<- hwz]
 exact bodyPost_ret (results_cell rfl rfl (run_loadVar_row _ _ _ _ _ _ _ hkz Tryd.underlying26 rfl (by kernel_rfl))) rfl hpz
set_option maxHeartbeats 1600000 in
theorem drawShowNote_any (a : Option Addr) (n cap : Nat) (l : List UInt8) (w : World) {lo hi : Nat} (hB : Bytes lo hi w a n l) (hhi : hi <= w.heap.size) (hn : n <= 4096) :
  Calls Tryd.prog 7 #[.slice a n cap] w (NoteGiven w) := by
 obtain ⟨wA,hwA⟩ : ∃ wA,wA = w.alloc (.cells #[.int .i64 0,.int .i64 0,.int .i64 0,.int .i64 0,.int .i64 0,.string ⟨#[]⟩,.slice none 0 0] 26) := ⟨_,rfl⟩
 have HBA : Hid (Below w.heap.size w wA) := by rw [hwA]; exact (Below.refl _ _).alloc (Nat.le_refl _) _
 have HKA : Hid (wA.heap[w.heap.size]? = some (.cells #[.int .i64 0,.int .i64 0,.int .i64 0,.int .i64 0,.int .i64 0,.string ⟨#[]⟩,.slice none 0 0] 26)) := by rw [hwA]; exact heap_new _ _
 have HB := hide (hB.later HBA.out hhi)
 have hsA : wA.heap.size = w.heap.size + 1 := by rw [hwA]; simp
 clear hB
 go_enter Tryd.func7,Tryd.ntmps7
 go_wp2_with fail
 rw [<- hwA]
 clear hwA
 refine (drawNoteOk_any a n cap l wA HB.out (Nat.le_trans HB.out.2.1 (Nat.le_refl _)) hn).mono ?_
 rintro e w1 ⟨x,av,c,rfl,hx,hc,ht,b1⟩
 have HK1 := hide (block_on HKA.out b1)
 obtain ⟨wz,hwz,hkz,hpz⟩ := note_stored HK1.out (below_here HBA.out b1) ht (by omega) hx hc
 obtain ⟨d0,d1,d2,d3,d4,d5,d6⟩ := note_cells HK1.out
 obtain ⟨f0,f1,f2,f3,f4,f5,f6⟩ : _ ∧ _ ∧ _ ∧ _ ∧ _ ∧ _ ∧ _ := ⟨four_frozen HK1.out 0,four_frozen HK1.out 1,four_frozen HK1.out 2,four_frozen HK1.out 3,four_frozen HK1.out 4,four_frozen HK1.out 5,four_frozen HK1.out 6⟩
 clear b1 ht HKA HBA HB hsA
 unfold noteV
 go_wp2_with fail
 rw [<- hwz]
 exact bodyPost_ret (results_cell rfl rfl (run_loadVar_row _ _ _ _ _ _ _ hkz Tryd.underlying26 rfl (by kernel_rfl))) rfl hpz
theorem showNt_small {x : Nt} (h : NtSz x) : (showNt x).size <= 4000 := by
 unfold showNt
 split
 ·rename_i hok
  obtain ⟨k,tt,e,s,a,tx,vs⟩ := x
  obtain ⟨⟨k0,k1⟩,⟨t0,t1⟩,⟨e0,e1⟩,⟨s0,s1⟩,⟨a0,a1⟩,htx,hvs,hys⟩ := noteOk_in hok
  have hl : ∀ (b : ByteArray) i,i <= vs.length -> (lensS b vs i).size <= b.size + 8 * i := by
   intro b i
   induction i with
   | zero => intro _; exact Nat.le_refl _
   | succ i ih =>
    intro hi
    have h1 := ih (by omega)
    have h2 : (lensS b vs (i + 1)).size <= (lensS b vs i).size + 8 := spB_len (by
     have := hys i (show i < vs.length by omega)
     omega)
    omega
  have hb : ∀ i,i <= vs.length -> (bodyS tx vs i).size <= tx.size + 24 * i := by
   intro i
   induction i with
   | zero => intro _; exact Nat.le_refl _
   | succ i ih =>
    intro hi
    have h1 := ih (by omega)
    have h2 := hys i (show i < vs.length by omega)
    show (bodyS tx vs i ++ vs.getD i ByteArray.empty).size <= _
    rw [ByteArray.size_append]
    omega
  have hh : (headS k.toNat tt.toNat e.toNat s.toNat a.toNat tx.size vs.length).size <= 55 := by
   unfold headS
   have n0 := numB_len (show k.toNat <= 1000000 by omega)
   have n1 := spB_len (s := numB k.toNat) (show tt.toNat <= 1000000 by omega)
   have n2 := spB_len (s := spB (numB k.toNat) tt.toNat) (show e.toNat <= 1000000 by omega)
   have n3 := spB_len (s := spB (spB (numB k.toNat) tt.toNat) e.toNat) (show s.toNat <= 1000000 by omega)
   have n4 := spB_len (s := spB (spB (spB (numB k.toNat) tt.toNat) e.toNat) s.toNat) (show a.toNat <= 1000000 by omega)
   have n5 := spB_len (s := spB (spB (spB (spB (numB k.toNat) tt.toNat) e.toNat) s.toNat) a.toNat) (show tx.size <= 1000000 by omega)
   have n6 := spB_len (s := spB (spB (spB (spB (spB (numB k.toNat) tt.toNat) e.toNat) s.toNat) a.toNat) tx.size) (show vs.length <= 1000000 by omega)
   omega
  have h1 := hl (headS k.toNat tt.toNat e.toNat s.toNat a.toNat tx.size vs.length) vs.length (Nat.le_refl _)
  have h2 := hb vs.length (Nat.le_refl _)
  rw [checked_size]
  simp only [ByteArray.size_append]
  have h3 : (⟨#[10]⟩ : ByteArray).size = 1 := rfl
  omega
 ·simp [ByteArray.size]
set_option maxHeartbeats 1600000 in
theorem drawReadNote_any (a : Option Addr) (n cap : Nat) (l : List UInt8) (w : World) {lo hi : Nat} (hB : Bytes lo hi w a n l) (hn : n <= 4096) :
  Calls Tryd.prog 9 #[.slice a n cap] w fun e w' => ∃ s : ByteArray,e = .returned (.string s) ∧ s.size <= 4002 ∧ Below w.heap.size w w' := by
 go_enter Tryd.func9,Tryd.ntmps9
 go_wp2_with fail
 refine (l1New_any a n cap l w hB hn).mono ?_
 rintro e w1 ⟨p,rfl,hp,c1,b1⟩
 have HB1 := hide b1
 clear b1
 go_wp2_with fail
 refine (l15Draw_any p w1 c1).mono ?_
 rintro e w2 ⟨⟨k,tt,ee,s,at',tx,vs⟩,av,c,rfl,h3,hc,htx,hts,ht,c2,s2⟩
 have HB2 := hide (HB1.out.trans (s2.below (B := w.heap.size) hp HB1.out.size))
 have HSZ : Hid ((showNt ⟨k,tt,ee,s,at',tx,vs⟩).size <= 4000) := showNt_small ⟨h3,htx,hts⟩
 have HC2 := hide c2
 have HT := hide ht
 dsimp only at h3 htx hts HT
 have HTS : Hid (∀ y ∈ vs,y.size <= 1048576) := fun y hy => Nat.le_trans (hts y hy) (by omega)
 clear s2 c1 HB1 hc hts ht c2
 unfold noteV
 go_wp2_with fail
 refine (specShowNote_any k tt ee s at' tx vs av vs.length c w2 HT.out (by omega) HTS.out (by unfold maxLen; omega)).mono ?_
 rintro e w3 ⟨rfl,b3⟩
 have HB3 := hide (below_here HB2.out b3)
 have HC3 := hide (HC2.out.below b3 HC2.out.lt)
 clear b3 HB2 HC2 HT HTS
 obtain ⟨t,ht⟩ : ∃ t,t = showNt ⟨k,tt,ee,s,at',tx,vs⟩ := ⟨_,rfl⟩
 rw [<- ht] at HSZ ⊢
 clear ht
 have hsz := HSZ.out
 go_wp2_with fail
 refine (l1Once_any p 2 w3 HC3.out (by omega)).mono ?_
 rintro e w4 ⟨b,rfl,c4,s4⟩
 have HB4 := hide (HB3.out.trans (s4.below hp HB3.out.size))
 clear HB3 s4 HC3
 cases b
 ·go_wp2_with fail
  go_ret
  exact ⟨_,rfl,by omega,HB4.out⟩
 ·go_wp2_with fail
  refine (bend_any p t ⟨#[48,49,32,10,0]⟩ w4 c4 (by omega) (by simp [ByteArray.size]) (by simp [ByteArray.size])).mono ?_
  rintro e w5 ⟨u,rfl,hu,c5,s5⟩
  have HB5 := hide (HB4.out.trans (s5.below hp HB4.out.size))
  clear HB4 s5 c4
  go_wp2_with fail
  go_ret
  exact ⟨_,rfl,by omega,HB5.out⟩
end Go.Proofs.YtdjifickdcnacaaDoor
