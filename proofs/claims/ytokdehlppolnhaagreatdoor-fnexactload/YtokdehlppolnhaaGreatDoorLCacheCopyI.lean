/- . -/
import Derived.Test.YtokdehlppolnhaaGreatDoorLHeldImpl3
import Derived.Test.YtokdehlppolnhaaGreatDoorLFtlImplH
import Derived.Deep.RegionWith
import Derived.Deep.RegionLaw
import Derived.Deep.AppendLies
namespace Go.Proofs.YtokdehlppolnhaaGreatDoor
open Go.RowKit
set_option linter.unusedVariables false
set_option maxRecDepth 20000
theorem hdL_snoc (ys : List Hd) (x : Hd) : hdL ys ++ [.int .i64 x.1,.string x.2.1,.bool x.2.2] = hdL (ys ++ [x]) := by rw [hdL_append]; rfl
theorem hd_take_snoc {ys : List Hd} {k : Nat} (h : k < ys.length) : ys.take k ++ [hdAt ys k] = ys.take (k + 1) := by
 rw [List.take_succ_eq_append_getElem h,hdAt_get h]
theorem hd_new (w : World) (x y z : Value) (t : TypeId) : ∀ j u,[x,y,z][j]? = some u -> (w.alloc (.cells #[x,y,z] t)).cell? ((⟨w.heap.size,0,none⟩ : Addr).add j) = some u := cell_three_new w x y z t
def CacheAns2 (w : World) (c : Cv) (v : Value) (w' : World) : Prop := ∃ ai ci a cp am cm,v = cvV c ai ci a cp am cm ∧ CacheOwn w.heap.size w'.heap.size w' ai a am c.ys c.f.qs c.f.ps ∧ Below w.heap.size w w' ∧ c.f.ps.length <= cm ∧ c.ys.length <= ci
theorem CacheAns2.one {w w' : World} {c : Cv} {v : Value} (h : CacheAns2 w c v w') : CacheAns w c v w' := by
 obtain ⟨ai,ci,a,cp,am,cm,h1,h2,h3,h4,_⟩ := h
 exact ⟨ai,ci,a,cp,am,cm,h1,h2,h3,h4⟩
set_option maxHeartbeats 6400000 in
theorem copyOfCache_any (rm : Int) (ai : Option Addr) (ni ci : Nat) (ys : List Hd) (z : Int) (a : Option Addr) (n cap : Nat) (qs : List Sq) (am : Option Addr) (m cm : Nat) (ps : List Pl) (op st : Int) (w : World) {l1 r1 lo hi lo' hi' : Nat} (hy : Helds l1 r1 w ai ni ys) (hr1 : r1 <= w.heap.size) (hni : ni <= 1000) (hfy : ∀ i,i < ni -> (hdAt ys i).2.1.size <= 1048576) (h : Squares lo hi w a n qs) (hhi : hi <= w.heap.size) (hok : chipOk z qs = true) (hp : Places lo' hi' w am m ps) (hhi' : hi' <= w.heap.size) (hm1 : 1 <= m) (hm : m <= 64) :
  Calls Tryz.prog 69 #[.agg #[.int .i64 rm,.slice ai ni ci,.int .i64 z,.slice a n cap,.slice am m cm,.int .i64 op,.int .i64 st]] w fun e w' => ∃ v,e = .returned v ∧ CacheAns2 w ⟨rm,ys,⟨z,qs,ps,op,st⟩⟩ v w' := by
 obtain ⟨wA,hwA⟩ : ∃ wA,wA = (w.alloc (.cells #[.int .i64 rm,.slice ai ni ci,.int .i64 z,.slice a n cap,.slice am m cm,.int .i64 op,.int .i64 st] 40)).alloc (.cells #[.int .i64 0,.slice none 0 0,.int .i64 0,.slice none 0 0,.slice none 0 0,.int .i64 0,.int .i64 0] 40) := ⟨_,rfl⟩
 have hzA : wA.heap.size = w.heap.size + 1 + 1 := by rw [hwA]; simp
 have HBA : Hid (Below w.heap.size w wA) := by rw [hwA]; exact ((Below.refl _ _).alloc (Nat.le_refl _) _).alloc (by simp) _
 have H0 : Hid (wA.heap[w.heap.size]? = some (.cells #[.int .i64 rm,.slice ai ni ci,.int .i64 z,.slice a n cap,.slice am m cm,.int .i64 op,.int .i64 st] 40)) := by rw [hwA]; exact heap_old (heap_new _ _)
 have H1 : Hid (wA.heap[w.heap.size + 1]? = some (.cells #[.int .i64 0,.slice none 0 0,.int .i64 0,.slice none 0 0,.slice none 0 0,.int .i64 0,.int .i64 0] 40)) := by rw [hwA]; exact heap_at (by simp)
 have HYA := hide (hy.later HBA.out hr1)
 have HSA := hide (h.later HBA.out hhi)
 have HPA := hide (hp.later HBA.out hhi')
 have HFY := hide hfy
 have hly := hy.1
 have hlq := h.1
 have hlp := hp.1
 obtain ⟨i0,hi0,hzz0,hzz1,hzz2⟩ := info_parts Tryz.infoHeld
 have HCF : ∀ W,Hid (Below wA.heap.size wA W -> Calls Tryz.prog 93 #[.agg #[.int .i64 z,.slice a n cap,.slice am m cm,.int .i64 op,.int .i64 st]] W fun e w' => ∃ v,e = .returned v ∧ FtlAns W ⟨z,qs,ps,op,st⟩ v w') := fun W hb =>
  copyOfFtl_raw z a n cap qs am m cm ps op st W (HSA.out.later hb (by omega)) (by have := hb.size; omega) hok (HPA.out.later hb (by omega)) (by have := hb.size; omega) hm1 hm
 clear h hp hy hfy
 obtain ⟨c0,c1,c2,c3,c4,c5,c6⟩ := seven_cells H0.out
 go_enter Tryz.func69,Tryz.ntmps69
 go_upto_region 1 with fail
 rw [<- hwA]
 clear hwA
 go_cut [3] (fun v wx => ∃ (P : Nat) (a' : Option Addr) (c' : Nat) (am' : Option Addr) (cm' : Nat),v = .pointer (some ⟨P,0,none⟩) ∧ wx.heap[P]? = some (.cells #[.int .i64 rm,.slice none 0 0,.int .i64 z,.slice a' n c',.slice am' m cm',.int .i64 op,.int .i64 st] 40) ∧ (∃ lF hF,FtlOwn lF hF wx a' am' qs ps ∧ wA.heap.size <= lF ∧ hF <= wx.heap.size ∧ (P + 1 <= lF ∨ hF <= P)) ∧ Below wA.heap.size wA wx ∧ ps.length <= cm' ∧ wA.heap.size <= P)
 case first =>
  obtain ⟨wZ,hwZ⟩ : ∃ wZ,wZ = wA.alloc (.cells #[.int .i64 0,.slice none 0 0,.int .i64 0,.slice none 0 0,.slice none 0 0,.int .i64 0,.int .i64 0] 40) := ⟨_,rfl⟩
  have hzZ : wZ.heap.size = wA.heap.size + 1 := by rw [hwZ]; simp
  have HBZ : Hid (Below wA.heap.size wA wZ) := by rw [hwZ]; exact (Below.refl _ _).alloc (Nat.le_refl _) _
  have HZ : Hid (wZ.heap[wA.heap.size]? = some (.cells #[.int .i64 0,.slice none 0 0,.int .i64 0,.slice none 0 0,.slice none 0 0,.int .i64 0,.int .i64 0] 40)) := by rw [hwZ]; exact heap_new _ _
  have HZ0 := hide (block_on H0.out HBZ.out)
  have HBD : Hid (Below wA.heap.size wA wZ.drew) := HBZ.out.drew
  rw [hwZ] at HBD
  have cz := seven_cells HZ0.out
  rw [hwZ] at cz
  obtain ⟨e0,e1,e2,e3,e4,e5,e6⟩ := cz
  have HZA := hide hzA
  have HZZ := hide hzZ
  clear hzA hzZ
  go_region_with (first
   | (go_at_call 93; refine ((HCF _).out (by exact (Below.refl wA.heap.size wA).drew)).mono ?_; rintro e w5 ⟨v,rfl,a',c',am',cm',rfl,ho5,b5,hcap5⟩; unfold fvV; dsimp only; rw [hlq,hlp]; have HO5 := hide ho5; have HC5 := hide hcap5; have M0 := hide (block_on (w := wA.drew) H0.out b5); have HB5 : Hid (Below wA.heap.size wA w5) := below_here (Below.refl wA.heap.size wA).drew b5; have hs5 : wA.heap.size <= w5.heap.size := b5.size; have HWAY : Hid (True ∧ wA = wA) := ⟨trivial,rfl⟩; clear ho5 b5 hcap5; obtain ⟨y0,y1,y2,y3,y4,y5,y6⟩ := seven_cells M0.out; have M2 := hide (heap_old (o := .cells #[.int .i64 0,.slice none 0 0,.int .i64 0,.slice none 0 0,.slice none 0 0,.int .i64 0,.int .i64 0] 40) M0.out); obtain ⟨v0,v1,v2,v3,v4,v5,v6⟩ := seven_cells M2.out; have NZ := hide (heap_new w5 (.cells #[.int .i64 0,.slice none 0 0,.int .i64 0,.slice none 0 0,.slice none 0 0,.int .i64 0,.int .i64 0] 40)); obtain ⟨d0,d1,d2,d3,d4,d5,d6⟩ := seven_cells NZ.out; have f0 := four_frozen NZ.out 0; have f1 := four_frozen NZ.out 1; have f2 := four_frozen NZ.out 2; have f3 := four_frozen NZ.out 3; have f4 := four_frozen NZ.out 4; have f5 := four_frozen NZ.out 5; have f6 := four_frozen NZ.out 6)
   | (go_at_call 93; refine ((HCF _).out (by exact HBD.out)).mono ?_; rintro e w5 ⟨v,rfl,a',c',am',cm',rfl,ho5,b5,hcap5⟩; unfold fvV; dsimp only; rw [hlq,hlp]; rw [<- hwZ] at ho5 b5; have HO5 := hide ho5; have HC5 := hide hcap5; have M0 := hide (block_on (w := wZ.drew) HZ0.out b5); have M1 := hide (block_on (w := wZ.drew) HZ.out b5); have HB5 : Hid (Below wA.heap.size wA w5) := (show Below wA.heap.size wA wZ.drew from HBZ.out.drew).trans (b5.mono HBZ.out.size); have hs5 : wZ.heap.size <= w5.heap.size := b5.size; clear ho5 b5 hcap5; obtain ⟨y0,y1,y2,y3,y4,y5,y6⟩ := seven_cells M0.out; obtain ⟨d0,d1,d2,d3,d4,d5,d6⟩ := seven_cells M1.out; have f0 := four_frozen M1.out 0; have f1 := four_frozen M1.out 1; have f2 := four_frozen M1.out 2; have f3 := four_frozen M1.out 3; have f4 := four_frozen M1.out 4; have f5 := four_frozen M1.out 5; have f6 := four_frozen M1.out 6))
  all_goals first
   | (have HBF := hide (HB5.out.alloc (o := .cells #[.int .i64 rm,.slice none 0 0,.int .i64 z,.slice a' n c',.slice am' m cm',.int .i64 op,.int .i64 st] 40) hs5)
      have HOF := hide (HO5.out.later ((Below.refl w5.heap.size w5).alloc (o := .cells #[.int .i64 rm,.slice none 0 0,.int .i64 z,.slice a' n c',.slice am' m cm',.int .i64 op,.int .i64 st] 40) (Nat.le_refl _)) (Nat.le_refl _))
      have HUSE := HWAY
      go_wp2_with fail
      go_meet
      exact ⟨w5.heap.size,a',c',am',cm',rfl,heap_new _ _,⟨wA.heap.size,w5.heap.size,HOF.out,Nat.le_refl _,by simp,.inr (Nat.le_refl _)⟩,HBF.out,HC5.out,hs5⟩)
   | (have HRS := hide (seven_set M1.out (.int .i64 rm) (.slice none 0 0) (.int .i64 z) (.slice a' n c') (.slice am' m cm') (.int .i64 op) (.int .i64 st))
      have HAS := hide (seven_aside (b := wA.heap.size) (Aside.refl wA.heap.size (wA.heap.size + 1) w5) (Nat.le_refl _) (Nat.lt_succ_self _) (.int .i64 rm) (.slice none 0 0) (.int .i64 z) (.slice a' n c') (.slice am' m cm') (.int .i64 op) (.int .i64 st))
      have HBF := hide (HB5.out.trans (HAS.out.below (B := wA.heap.size) (Nat.le_refl _) (by have := HZZ.out; omega)))
      have HOF := hide (HO5.out.aside HAS.out (.inl (by show wA.heap.size + 1 <= wZ.heap.size; have := HZZ.out; omega)))
      go_wp2_with fail
      go_meet
      exact ⟨wA.heap.size,a',c',am',cm',rfl,HRS.out,⟨wZ.heap.size,w5.heap.size,HOF.out,HBZ.out.size,HAS.out.size,.inl (by have := HZZ.out; omega)⟩,HBF.out,HC5.out,Nat.le_refl _⟩)
 case rest =>
  obtain ⟨P,a',c',am',cm',rfl,hP,hown,hbel,hcap,hPA⟩ := hcut
  obtain ⟨wS,hwS⟩ : ∃ wS,wS = wc := ⟨_,rfl⟩
  subst hwS
  have HP := hide hP
  obtain ⟨lF,hF,hown,hlF,hhF,hapF⟩ := hown
  have HOW := hide hown
  have HBS := hide hbel
  have HCP := hide hcap
  have hPl : P < wS.heap.size := (Array.getElem?_eq_some_iff.1 hP).1
  have K0 := hide (block_on H0.out hbel)
  have K1 := hide (block_on H1.out hbel)
  have HY := hide (HYA.out.later hbel (by omega))
  clear hP hown hbel hcap HCF c0 c1 c2 c3 c4 c5 c6 H0 H1
  obtain ⟨c0,c1,c2,c3,c4,c5,c6⟩ := seven_cells K0.out
  go_wp2_with fail
  clear c0 c1 c2 c3 c4 c5 c6
  go_loopw [15] (fun i wr => ∃ (k : Nat) (V : Value),k <= ni ∧ i = .int .i64 (k : Int) ∧ wr.heap[P]? = some (.cells #[.int .i64 rm,V,.int .i64 z,.slice a' n c',.slice am' m cm',.int .i64 op,.int .i64 st] 40) ∧ wr.ownsRow wS.heap.size 67 3 V k (hdL (ys.take k)) ∧ wS.heap.size <= wr.heap.size ∧ Aside P (P + 1) wS wr) (fun i _ => ni - (intOf i).toNat)
  case atStart => exact ⟨0,.slice none 0 0,Nat.zero_le _,rfl,HP.out,World.ownsRow_nil _ _ _ _,Nat.le_refl _,Aside.refl _ _ _⟩
  case round =>
   obtain ⟨k,V,hk,rfl,hb0,hrow,hsz,hbel⟩ := hrel
   have KP := hide hb0
   have HRW := hide hrow
   have HBB := hide hbel
   clear hb0 hrow
   have hV : ∀ m,V.ownBlock = some m -> wS.heap.size <= m := fun m hm => (HRW.out.lt m hm).1
   by_cases hlt : k < ni
   ·obtain ⟨b,off,rfl,hb1,hb2,x0,x1,x2⟩ := hd_read (HY.out.aside hbel (.inl (by omega))) hlt
    have hx9 := HFY.out k hlt
    have HTK := hide (hd_take_snoc (ys := ys) (k := k) (by omega))
    have hkn : (k : Int) < (ni : Int) := by omega
    clear hbel
    generalize hdAt ys k = x at *
    obtain ⟨xa,xt,xd⟩ := x
    dsimp only at x0 x1 x2 hx9
    obtain ⟨wI,hwI⟩ : ∃ wI,wI = wr.alloc (.cells #[.int .i64 xa,.string xt,.bool xd] 67) := ⟨_,rfl⟩
    have hzI : wI.heap.size = wr.heap.size + 1 := by rw [hwI]; simp
    have HBI : Hid (Below wr.heap.size wr wI) := by rw [hwI]; exact (Below.refl _ _).alloc (Nat.le_refl _) _
    have HI : Hid (wI.heap[wr.heap.size]? = some (.cells #[.int .i64 xa,.string xt,.bool xd] 67)) := by rw [hwI]; exact heap_new _ _
    have KI := hide (block_on KP.out HBI.out)
    have HRI : Hid (wI.ownsRow wS.heap.size 67 3 V k (hdL (ys.take k))) := own_keepBy HRW.out (grown_below HBI.out none) (fun k e => by cases e)
    have HWI := hide (HBB.out.trans (aside_new HBI.out))
    obtain ⟨i1,i2,i3⟩ := three_cells HI.out
    obtain ⟨q0,q1,q2,q3,q4,q5,q6⟩ := seven_cells KI.out
    have HCL : ∀ w9,Hid (Calls Tryz.prog 145 #[.agg #[.int .i64 xa,.string xt,.bool xd]] w9 fun e w' => e = .returned (.agg #[.int .i64 xa,.string xt,.bool xd]) ∧ Below w9.heap.size w9 w') := fun w9 => copyOfHeld_any xa xt xd w9 hx9
    go_upto_region 5 with fail
    rw [<- hwI]
    clear hwI x0 x1 x2
    go_region_law (first
     | (refine step_append_lies _ (by rfl) _ _ _ (by rfl) wS.heap.size 67 i0 (.agg #[.int .i64 0,.string ByteArray.empty,.bool false]) 3 32 Tryz.underlying32 hi0 hzz0 hzz1 hzz2 rfl (by decide) V k (hdL (ys.take k)) (by rfl) HO9.out ⟨w9.heap.size,0,none⟩ 1 1 [.int .i64 xa,.string xt,.bool xd] (by rfl) rfl (hd_new _ _ _ _ _) (hdV_one (xa,xt,xd)) (by omega) (by unfold maxLen; omega) (by omega) (by simp; omega) (w9.heap.size + 1) (by simp) ?_; intro g' c'' w5 hown5 hgr5 hat5 hlt5; have K5 : Hid (w5.heap[P]? = some (.cells #[.int .i64 rm,V,.int .i64 z,.slice a' n c',.slice am' m cm',.int .i64 op,.int .i64 st] 40)) := (hgr5.block _ (by simp; omega) (fun e => by have := hV _ e.symm; omega)).trans KA.out; obtain ⟨r0,r1,r2,r3,r4,r5,r6⟩ := seven_cells K5.out; have rf := four_frozen K5.out 1; have HO5 := hide hown5; have HR5 := hide hgr5; clear hown5 hgr5 hat5)
     | (go_simp; go_at_call 145; refine (HCL _).out.mono ?_; rintro e w9 ⟨rfl,b9⟩; have K9 := hide (block_on (w := wI.drew) KI.out b9); have hs9 : wI.heap.size <= w9.heap.size := b9.size; have KA := hide (heap_old (o := .cells #[.int .i64 xa,.string xt,.bool xd] 67) K9.out); have HO9 := hide ((HRI.out.drew.kept (grown_below b9 none) (by cases hv : V.ownBlock with | none => exact .inl rfl | some q => exact .inr (by simp))).alloc (.cells #[.int .i64 xa,.string xt,.bool xd] 67)); obtain ⟨s0,s1,s2,s3,s4,s5,s6⟩ := seven_cells K9.out; obtain ⟨t0,t1,t2,t3,t4,t5,t6⟩ := seven_cells KA.out; have B9 := hide ((Below.refl wI.heap.size wI).drew.trans b9); clear b9; dsimp only))
    all_goals
     have hs5 := HR5.out.size
     have hzz : (w9.alloc (.cells #[.int .i64 xa,.string xt,.bool xd] 67)).heap.size = w9.heap.size + 1 := by simp
     have HRL : Hid (w5.ownsRow wS.heap.size 67 3 (.slice (some ⟨g',0,none⟩) (k + 1) c'') (k + 1) (hdL (ys.take (k + 1)))) := by have := HO5.out; rw [<- HTK.out,<- hdL_snoc]; exact this
     have HBA2 := hide ((HWI.out.trans (aside_new B9.out)).trans (aside_new ((Below.refl w9.heap.size w9).alloc (Nat.le_refl _) (.cells #[.int .i64 xa,.string xt,.bool xd] 67))))
     have HK0F := hide (set_block K5.out 1 (.slice (some ⟨g',0,none⟩) (k + 1) c'') (by simp))
     have HOF := hide (ownsRow_setCell_below HRL.out (a := ⟨P,1,none⟩) (by show P < _; omega) (.slice (some ⟨g',0,none⟩) (k + 1) c''))
     have HA5 : Hid (Aside P (P + 1) wS w5) := ⟨HR5.out.os.trans HBA2.out.os,HR5.out.tape.trans HBA2.out.tape,HR5.out.output.trans HBA2.out.output,Nat.le_trans HBA2.out.size hs5,fun q hq h' => (HR5.out.block q (by omega) (fun e => by have := hV q e.symm; omega)).trans (HBA2.out.block q hq h')⟩
     have HBF := hide (HA5.out.setCell (p := ⟨P,1,none⟩) (Nat.le_refl _) (Nat.lt_succ_self _) (.slice (some ⟨g',0,none⟩) (k + 1) c''))
     have hsF : wS.heap.size <= (w5.setCell ⟨P,1,none⟩ (.slice (some ⟨g',0,none⟩) (k + 1) c'')).heap.size := by rw [Go.Deep.nblk_setCell]; omega
     go_wp2_with fail
     exact ⟨⟨k + 1,.slice (some ⟨g',0,none⟩) (k + 1) c'',by omega,by go_num,HK0F.out,HOF.out,hsF,HBF.out⟩,by simp [intOf]; omega⟩
   ·obtain rfl : k = ni := by omega
    have HTK : Hid (ys.take k = ys) := by show _ = _; rw [<- hly]; exact List.take_length
    have hrw := HRW.out
    rw [HTK.out] at hrw
    obtain ⟨ai',ci',rfl⟩ : ∃ ai' ci',V = .slice ai' k ci' := by
     rcases Go.Joins.ownsRow_forms hrw with ⟨rfl,h0⟩ | ⟨g',c',rfl⟩
     ·exact ⟨none,0,by rw [h0]⟩
     ·exact ⟨_,c',rfl⟩
    have hrw' : HdOwn wS.heap.size wr (.slice ai' k ci') ys := by show World.ownsRow _ _ _ _ _ ys.length _; rw [hly]; exact hrw
    have HOI := hide (hd_own hrw')
    have HCI : Hid (ys.length <= ci') := by
     obtain ⟨a9,c9,e9,h9⟩ := hd_form hrw'
     simp only [Value.slice.injEq] at e9
     show _ <= _
     omega
    have KZ : Hid (wr.heap[w.heap.size + 1]? = some (.cells #[.int .i64 0,.slice none 0 0,.int .i64 0,.slice none 0 0,.slice none 0 0,.int .i64 0,.int .i64 0] 40)) := (hbel.block _ (by omega) (.inl (by omega))).trans K1.out
    have HFT := hide (HOW.out.aside hbel hapF)
    clear hrw hrw' hbel
    obtain ⟨q0,q1,q2,q3,q4,q5,q6⟩ := seven_cells KP.out
    obtain ⟨p0,p1,p2,p3,p4,p5,p6⟩ := seven_cells KZ.out
    have f0 := four_frozen KZ.out 0
    have f1 := four_frozen KZ.out 1
    have f2 := four_frozen KZ.out 2
    have f3 := four_frozen KZ.out 3
    have f4 := four_frozen KZ.out 4
    have f5 := four_frozen KZ.out 5
    have f6 := four_frozen KZ.out 6
    have HRS := hide (seven_set KZ.out (.int .i64 rm) (.slice ai' k ci') (.int .i64 z) (.slice a' n c') (.slice am' m cm') (.int .i64 op) (.int .i64 st))
    have HAS := hide (seven_aside (b := w.heap.size + 1) (Aside.refl (w.heap.size + 1) (w.heap.size + 1 + 1) wr) (Nat.le_refl _) (Nat.lt_succ_self _) (.int .i64 rm) (.slice ai' k ci') (.int .i64 z) (.slice a' n c') (.slice am' m cm') (.int .i64 op) (.int .i64 st))
    have HBF := hide ((below_here HBA.out HBS.out).trans ((HBB.out.below (B := w.heap.size) (by omega) (by omega)).trans (HAS.out.below (B := w.heap.size) (by omega) (by omega))))
    have HCO : Hid (CacheOwn wA.heap.size wr.heap.size wr ai' a' am' ys qs ps) := ⟨Nat.le_refl _,wS.heap.size,wr.heap.size,lF,hF,by omega,Nat.le_refl _,hlF,by omega,.inr (by omega),HOI.out,HFT.out⟩
    go_wp2_with fail
    refine bodyPost_ret (results_cell rfl rfl (run_loadVar_row _ _ _ _ _ _ _ HRS.out Tryz.underlying40 rfl (by kernel_rfl))) rfl ⟨_,rfl,ai',ci',a',c',am',cm',?_,?_,HBF.out,HCP.out,HCI.out⟩
    ·unfold cvV; dsimp only; rw [hly,hlq,hlp]
    ·exact cache_stored HCO.out HAS.out (by omega) (by omega)
end Go.Proofs.YtokdehlppolnhaaGreatDoor
