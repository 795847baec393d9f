/- . -/
import Derived.Test.YtokdehlppolnhaaGreatDoorLFtlMath
import Derived.Test.YtokdehlppolnhaaGreatDoorLWearImplA
namespace Go.Proofs.YtokdehlppolnhaaGreatDoor
open Go.RowKit
set_option linter.unusedVariables false
set_option maxRecDepth 20000
set_option maxHeartbeats 3200000 in
theorem l10Get_any (z : Int) (a : Option Addr) (n cap : Nat) (qs : List Sq) (am : Option Addr) (m cm : Nat) (ps : List Pl) (op st : Int) (k : Nat) (w : World) {lo hi lo' hi' : Nat} (h : Squares lo hi w a n qs) (hhi : hi <= w.heap.size) (hn : n <= 1048576) (hf : ∀ x ∈ qs,sqFits x) (hp : Places lo' hi' w am m ps) (hhi' : hi' <= w.heap.size) (hm : m <= 64) (hlt : k < m) (hok : chipOk z qs = true) :
  Calls Tryz.prog 77 #[.agg #[.int .i64 z,.slice a n cap,.slice am m cm,.int .i64 op,.int .i64 st],.int .i64 (k : Int)] w fun e w' => e = .returned (.tuple #[.string (if plAt ps k == (-1,0) then ByteArray.empty else (pgOf z qs (plAt ps k)).2.2.2.1),.bool (!(plAt ps k == (-1,0)) && ((pgOf z qs (plAt ps k)).1 == 1))]) ∧ Below w.heap.size w w' := by
 obtain ⟨wr,hwA⟩ : ∃ wA,wA = w.alloc (.cells #[.int .i64 z,.slice a n cap,.slice am m cm,.int .i64 op,.int .i64 st] 38) := ⟨_,rfl⟩
 have hzA : wr.heap.size = w.heap.size + 1 := by rw [hwA]; simp
 have HBA : Hid (Below w.heap.size w wr) := by rw [hwA]; exact (Below.refl _ _).alloc (Nat.le_refl _) _
 have KR : Hid (wr.heap[w.heap.size]? = some (.cells #[.int .i64 z,.slice a n cap,.slice am m cm,.int .i64 op,.int .i64 st] 38)) := by rw [hwA]; exact heap_new _ _
 have HS3 := hide (h.later HBA.out hhi)
 have HP3 := hide (hp.later HBA.out hhi')
 have HF := hide hf
 have HCK := hide hok
 clear h hf hp hok
 obtain ⟨a0,a1,a2,a3,a4⟩ := five_cells KR.out
 obtain ⟨b,off,rfl,_,hb,hc⟩ := HP3.out.2.2 (by omega)
 have hbs : b < wr.heap.size := by have := HP3.out.2.1; omega
 obtain ⟨c0,c1⟩ := pl_cells hc (Below.refl wr.heap.size wr) hbs hlt
 have HC := hide hc
 clear hc
 obtain ⟨y,hy⟩ : ∃ y,y = plAt ps k := ⟨_,rfl⟩
 have HY := hide hy
 rw [<- hy] at c0 c1
 rw [<- hy,pl_eq]
 clear hy
 obtain ⟨p,q⟩ := y
 dsimp only at c0 c1
 dsimp only
 obtain ⟨tx,htx⟩ : ∃ t,t = (if (p == -1 && q == 0) = true then ByteArray.empty else (pgOf z qs (p,q)).2.2.2.1) := ⟨_,rfl⟩
 obtain ⟨bx,hbx⟩ : ∃ t,t = (!(p == -1 && q == 0) && (pgOf z qs (p,q)).1 == 1) := ⟨_,rfl⟩
 rw [<- htx,<- hbx]
 have HTX := hide htx
 have HBX := hide hbx
 clear htx hbx
 go_enter Tryz.func77,Tryz.ntmps77
 go_upto_region 1 with fail
 rw [<- hwA]
 clear hwA
 have cN : ∀ d os,Calls Tryz.prog 98 #[] (Go.Sort.grow (redrawn wr d) os) fun e w'' => e = .returned (.agg #[.int .i64 (-1),.int .i64 0]) ∧ ∃ p : Regrown,w'' = Go.Sort.grow (redrawn wr p.d) p.os := fun d os => Calls.regrown_of (l9None_any _)
 have k0 := cell_regrown c0
 have k1 := cell_regrown c1
 have k2 := cell_regrown a2
 have q1 := Tryz.eqPl p q (-1) 0
 have q2 := Tryz.guardPl
 go_cut [14] (fun c wx => c = .bool ((p == -1) && (q == 0)) ∧ Below wr.heap.size wr wx)
 case first =>
  refine wp_region_quiet_below (by kernel_rfl) (by kernel_rfl) ?_
  repeat (go_big_quiet_step ((go_at_call 98; exact cN _ _)))
  refine wpQuiet_nil ?_
  intro _ hw'
  obtain ⟨⟨dq,osq⟩,hw''⟩ := hw'
  subst hw''
  have HBQ := hide (below_regrown wr dq osq)
  go_wp2_with fail
  go_meet
  exact ⟨rfl,HBQ.out⟩
 case rest =>
  obtain ⟨rfl,hb2⟩ := hcut
  obtain ⟨w4,hw4⟩ : ∃ w4,w4 = wc := ⟨_,rfl⟩
  subst hw4
  have HB4 := hide hb2
  have K4 := hide (block_on KR.out hb2)
  clear hb2 k0 k1 k2 cN q1 c0 c1 a0 a1 a2 a3 a4 KR
  cases hnone : ((p == -1) && (q == 0)) with
  | true =>
   have HB5 := hide (below_here HBA.out HB4.out)
   go_wp2_with fail
   have HT2 : Hid (tx = ByteArray.empty) := by show _ = _; rw [HTX.out,hnone]; rfl
   have HX2 : Hid (bx = false) := by show _ = _; rw [HBX.out,hnone]; rfl
   go_ret2
   exact ⟨by rw [HT2.out,HX2.out]; rfl,HB5.out⟩
  | false =>
   obtain ⟨r,hr⟩ : ∃ r,r = pgOf z qs (p,q) := ⟨_,rfl⟩
   have hs4 := HB4.out.size
   have HCL : ∀ w',Hid (Below w4.heap.size w4 w' -> Calls Tryz.prog 103 #[.agg #[.int .i64 z,.slice a n cap],.agg #[.int .i64 p,.int .i64 q]] w' fun e w'' => e = .returned (lyV r) ∧ Below w'.heap.size w' w'') := fun w' hb' => by
    rw [hr]
    have hs' := hb'.size
    exact l10Page_any z a n cap qs p q w' (HS3.out.later (below_here HB4.out hb') (by omega)) (by omega) hn HF.out HCK.out
   have HR := hide hr
   have HT2 : Hid (tx = r.2.2.2.1) := by show _ = _; rw [HTX.out,hnone,hr]; rfl
   have HX2 : Hid (bx = (r.1 == 1)) := by show _ = _; rw [HBX.out,hnone,hr]; rfl
   clear hr hnone HTX HBX
   obtain ⟨r0,r1,r2,r3,r4⟩ := r
   unfold lyV at HCL
   dsimp only at HCL
   obtain ⟨a0,a1,a2,a3,a4⟩ := five_cells K4.out
   obtain ⟨c0,c1⟩ := pl_cells HC.out HB4.out hbs hlt
   rw [<- HY.out] at c0 c1
   dsimp only at c0 c1
   have hwz : w.heap.size < w4.heap.size := by omega
   have HK : ∀ w',Hid (Below w4.heap.size w4 w' -> w'.cell? ⟨w.heap.size,0,none⟩ = some (.int .i64 z) ∧ w'.cell? ⟨w.heap.size,1,none⟩ = some (.slice a n cap) ∧ w'.cell? ⟨w.heap.size,2,none⟩ = some (.slice (some ⟨b,off,none⟩) m cm) ∧ w'.cell? ⟨b,off + k * 2,none⟩ = some (.int .i64 p) ∧ w'.cell? ⟨b,off + k * 2 + 1,none⟩ = some (.int .i64 q)) := fun w' hb' => ⟨(hb'.cell (p := ⟨_,_,none⟩) hwz).trans a0,(hb'.cell (p := ⟨_,_,none⟩) hwz).trans a1,(hb'.cell (p := ⟨_,_,none⟩) hwz).trans a2,(hb'.cell (p := ⟨_,_,none⟩) (by show b < _; omega)).trans c0,(hb'.cell (p := ⟨_,_,none⟩) (by show b < _; omega)).trans c1⟩
   go_upto_region 3 with fail
   go_cut [6] (fun v wx => ∃ g,v = .pointer (some ⟨g,0,none⟩) ∧ wx.heap[g]? = some (.cells #[.int .i64 r0,.int .i64 r1,.int .i64 r2,.string r3] 81) ∧ Below w4.heap.size w4 wx)
   case first =>
    have HB0 : Hid (Below w4.heap.size w4 w4.drew) := (Below.refl w4.heap.size w4).drew
    have HBa : Hid (Below w4.heap.size w4 (w4.alloc (.cells #[.int .i64 0,.int .i64 0,.int .i64 0,.string ⟨#[]⟩] 81)).drew) := ((Below.refl w4.heap.size w4).alloc (Nat.le_refl _) _).drew
    have HEa : Hid ((w4.alloc (.cells #[.int .i64 0,.int .i64 0,.int .i64 0,.string ⟨#[]⟩] 81)).drew.heap[w4.heap.size]? = some (.cells #[.int .i64 0,.int .i64 0,.int .i64 0,.string ⟨#[]⟩] 81)) := heap_new w4 _
    go_region_held3 (fun w' => w'.cell? ⟨w.heap.size,0,none⟩ = some (.int .i64 z) ∧ w'.cell? ⟨w.heap.size,1,none⟩ = some (.slice a n cap) ∧ w'.cell? ⟨w.heap.size,2,none⟩ = some (.slice (some ⟨b,off,none⟩) m cm) ∧ w'.cell? ⟨b,off + k * 2,none⟩ = some (.int .i64 p) ∧ w'.cell? ⟨b,off + k * 2 + 1,none⟩ = some (.int .i64 q))
     (first | exact (HK _).out HB0.out | exact (HK _).out HBa.out | exact (HK _).out HB5.out | exact (HK _).out HBS.out | exact (HK _).out HB6.out | exact ⟨a0,a1,a2,c0,c1⟩ | fail)
     (first
      | (go_at_call 103; refine ((HCL _).out HB0.out).mono ?_; rintro e w5 ⟨rfl,b5⟩; have HB5 := hide (below_here HB0.out b5); have hs5 := b5.size; have HB6 := hide (HB5.out.alloc HB5.out.size (.cells #[.int .i64 0,.int .i64 0,.int .i64 0,.string ⟨#[]⟩] 81)); have HBS := hide (HB5.out.alloc HB5.out.size (.cells #[.int .i64 r0,.int .i64 r1,.int .i64 r2,.string r3] 81)); have HRS := hide (heap_new w5 (.cells #[.int .i64 r0,.int .i64 r1,.int .i64 r2,.string r3] 81)))
      | (go_at_call 103; refine ((HCL _).out HBa.out).mono ?_; rintro e w5 ⟨rfl,b5⟩; have HB5 := hide (below_here HBa.out b5); have hs5 := b5.size; have E5 := hide (block_on HEa.out b5); obtain ⟨e0,e1,e2,e3⟩ := four_cells E5.out; have f0 := four_frozen E5.out 0; have f1 := four_frozen E5.out 1; have f2 := four_frozen E5.out 2; have f3 := four_frozen E5.out 3; have HRS := hide (four_set E5.out (.int .i64 r0) (.int .i64 r1) (.int .i64 r2) (.string r3)); have HBS := hide (four_below (b := w4.heap.size) HB5.out (Nat.le_refl _) (.int .i64 r0) (.int .i64 r1) (.int .i64 r2) (.string r3))))
    all_goals
     clear HB0 HBa HEa HK HCL a0 a1 a2 a3 a4 c0 c1 b5 HB5 hs5
     go_wp2_with fail
     go_meet
     exact ⟨_,rfl,HRS.out,HBS.out⟩
   case rest =>
    obtain ⟨g,rfl,hrs,hb5⟩ := hcut
    obtain ⟨w5,hw5⟩ : ∃ w5,w5 = wc := ⟨_,rfl⟩
    subst hw5
    have HB7 := hide (below_here HB4.out hb5)
    have HB8 := hide (below_here HBA.out HB7.out)
    clear hb5 HK HCL a0 a1 a2 a3 a4 c0 c1
    obtain ⟨d0,d1,d2,d3⟩ := four_cells hrs
    go_wp2_with fail
    have HB9 : Hid (Below w.heap.size w w5.drew) := HB8.out.drew
    go_region_held3 (fun w' => w'.cell? ⟨g,0,none⟩ = some (.int .i64 r0) ∧ w'.cell? ⟨g,3,none⟩ = some (.string r3)) (exact ⟨d0,d3⟩) (fail)
    all_goals
     go_wp2_with fail
     go_ret2
     exact ⟨by rw [HT2.out,HX2.out]; rfl,HB9.out⟩
end Go.Proofs.YtokdehlppolnhaaGreatDoor
