/- Several texts in one: FtlImplA, FtlImplB, CacheImplA. -/
import Derived.Test.YtgjoepdfhadmcaaGreatDoorFFtlMath
import Derived.Test.YtgjoepdfhadmcaaGreatDoorFChipOwn2
import Derived.Test.YtgjoepdfhadmcaaGreatDoorFLyImplD
import Derived.Test.YtgjoepdfhadmcaaGreatDoorFWearImplB
import Derived.Deep.RegionHeld3
import Derived.Deep.DeepCutAuto
import Derived.BigQuiet
import Derived.Test.YtgjoepdfhadmcaaGreatDoorFFtlOwnP
section
namespace Go.Proofs.YtgjoepdfhadmcaaGreatDoor
open Go.RowKit
set_option linter.unusedVariables false
set_option maxRecDepth 20000
def mayOp (qs : List Sq) (op : Int) : Bool := (op == -1) || (inB op 0 ((qs.length : Int) - 1) && !(sqAt qs op.toNat).2.2)
theorem mayOp_is (qs : List Sq) (op : Int) : mayOp qs op = (inB op (-1) ((qs.length : Int) - 1) && opOk qs op) := by
 unfold mayOp opOk inB
 by_cases e : op = -1
 ·subst e
  simp
  omega
 ·by_cases h0 : 0 <= op
  ·have h1 : decide (-1 <= op) = true := by simp; omega
   have h2 : decide (op >= 0) = true := by simpa using h0
   have h3 : decide (0 <= op) = true := by simpa using h0
   rw [h1,h2,show (op == -1) = false by simpa using e]
   simp
  ·have h1 : decide (-1 <= op) = false := by simp; omega
   have h3 : decide (0 <= op) = false := by simpa using h0
   rw [h1,h3,show (op == -1) = false by simpa using e]
   simp
set_option maxHeartbeats 1600000 in
theorem mayBeOpen_any (z : Int) (a : Option Addr) (n cap : Nat) (qs : List Sq) (op : Int) (w : World) {lo hi : Nat} (h : Squares lo hi w a n qs) (hhi : hi <= w.heap.size) (hn : n <= 1048576) :
  Calls Tryz.prog 87 #[.agg #[.int .i64 z,.slice a n cap],.int .i64 op] w fun e w' => e = .returned (.bool (mayOp qs op)) ∧ Below w.heap.size w w' := by
 obtain ⟨wA,hwA⟩ : ∃ wA,wA = w.alloc (.cells #[.int .i64 z,.slice a n cap] 26) := ⟨_,rfl⟩
 have hzA : wA.heap.size = w.heap.size + 1 := by rw [hwA]; simp
 have HBA : Hid (Below w.heap.size w wA) := by rw [hwA]; exact (Below.refl _ _).alloc (Nat.le_refl _) _
 have H0 : Hid (wA.heap[w.heap.size]? = some (.cells #[.int .i64 z,.slice a n cap] 26)) := by rw [hwA]; exact heap_new _ _
 have HS := hide (h.later HBA.out hhi)
 have HL := hide h.1
 clear h
 obtain ⟨c0,c1⟩ := two_cells H0.out
 by_cases e1 : op = -1
 ·subst e1
  go_enter Tryz.func87,Tryz.ntmps87
  go_wp2_with fail
  rw [<- hwA]
  go_ret
  exact ⟨rfl,HBA.out⟩
 ·have g1 : (op == -1) = false := by simpa using e1
  have HM : Hid (mayOp qs op = (inB op 0 ((n : Int) - 1) && !(sqAt qs op.toNat).2.2)) := by show _ = _; unfold mayOp; rw [g1,HL.out]; rfl
  go_enter Tryz.func87,Tryz.ntmps87
  go_wp2_with fail
  rw [<- hwA]
  clear hwA
  refine (hasSquare_any z a n cap op wA).mono ?_
  rintro e w1 ⟨rfl,b1⟩
  have K0 := hide (block_on H0.out b1)
  have HS1 := hide (HS.out.later b1 (by omega))
  have HB1 := hide (below_here HBA.out b1)
  have hs1 := b1.size
  clear b1 c0 c1
  obtain ⟨c0,c1⟩ := two_cells K0.out
  cases hin : inB op 0 ((n : Int) - 1) with
  | false =>
   go_wp2_with fail
   go_ret
   exact ⟨ret_bool (by rw [HM.out,hin]; rfl),HB1.out⟩
  | true =>
   have hin2 := hin
   unfold inB at hin2
   simp only [Bool.and_eq_true,decide_eq_true_eq] at hin2
   obtain ⟨i,rfl⟩ : ∃ i : Nat,op = (i : Int) := ⟨op.toNat,by omega⟩
   have hlt : i < n := by omega
   have hlt2 : (i : Int) < (n : Int) := by omega
   obtain ⟨_,A,C,hx,ht⟩ := HS1.out
   obtain ⟨b,off,rfl,_,hb,hc⟩ := hx.2 (by omega)
   obtain ⟨y0,y1,y2⟩ := sq_cells hc (Below.refl w1.heap.size w1) (show b < w1.heap.size by have := hx.1; omega) hlt
   rw [hin,Bool.true_and,Int.toNat_natCast] at HM
   generalize (sqAt qs i).2.2 = bd at *
   clear hc hx ht hin
   go_wp2_with fail
   go_ret
   exact ⟨ret_bool (by rw [HM.out]),HB1.out⟩
set_option maxHeartbeats 800000 in
theorem hasNumber_any (v0 v1 : Value) (am : Option Addr) (m cm : Nat) (v3 v4 : Value) (at_ : Int) (w : World) (hm : m <= maxLen) :
  Calls Tryz.prog 84 #[.agg #[v0,v1,.slice am m cm,v3,v4],.int .i64 at_] w fun e w' => e = .returned (.bool (inB at_ 0 ((m : Int) - 1))) ∧ Below w.heap.size w w' := by
 obtain ⟨wA,hwA⟩ : ∃ wA,wA = w.alloc (.cells #[v0,v1,.slice am m cm,v3,v4] 29) := ⟨_,rfl⟩
 have HBA : Hid (Below w.heap.size w wA) := by rw [hwA]; exact (Below.refl _ _).alloc (Nat.le_refl _) _
 have H0 : Hid (wA.heap[w.heap.size]? = some (.cells #[v0,v1,.slice am m cm,v3,v4] 29)) := by rw [hwA]; exact heap_new _ _
 obtain ⟨c0,c1,c2,c3,c4⟩ := five_cells H0.out
 by_cases h0 : 0 <= at_
 ·have g0 : decide (at_ >= 0) = true := by simpa using h0
  have HE : Hid (inB at_ 0 ((m : Int) - 1) = decide (at_ < (m : Int))) := by
   show _ = _
   unfold inB
   rw [decide_eq_true h0,Bool.true_and]
   by_cases h1 : at_ < (m : Int)
   ·rw [decide_eq_true h1,decide_eq_true (by omega)]
   ·rw [decide_eq_false h1,decide_eq_false (by omega)]
  go_enter Tryz.func84,Tryz.ntmps84
  go_wp2_with fail
  rw [<- hwA]
  go_ret
  exact ⟨ret_bool HE.out.symm,HBA.out⟩
 ·have g0 : decide (at_ >= 0) = false := by simpa using h0
  have HE : Hid (inB at_ 0 ((m : Int) - 1) = false) := by show _ = _; unfold inB; rw [decide_eq_false h0]; rfl
  go_enter Tryz.func84,Tryz.ntmps84
  go_wp2_with fail
  rw [<- hwA]
  go_ret
  exact ⟨ret_bool HE.out.symm,HBA.out⟩
def pgV4 (r : Int × Int × Int × ByteArray × Int) : Value := .agg #[.int .i64 r.1,.int .i64 r.2.1,.int .i64 r.2.2.1,.string r.2.2.2.1]
set_option maxHeartbeats 3200000 in
theorem pageLying_any (z : Int) (a : Option Addr) (n cap : Nat) (qs : List Sq) (s k : Nat) (w : World) {lo hi : Nat} (h : Squares lo hi w a n qs) (hhi : hi <= w.heap.size) (hs : s < n) (hk : k < (sqAt qs s).1.length) (hl8 : (sqAt qs s).1.length <= 8) (hn : n <= 1048576) (hz : (txAt qs s k).size <= 1048576) (hT : Tab w) {aB aL aS aC aF : Addr} (E : Errs w aB aL aS aC aF) :
  Calls Tryz.prog 89 #[.agg #[.int .i64 z,.slice a n cap],.agg #[.int .i64 (s : Int),.int .i64 (k : Int)]] w fun e w' => e = .returned (.tuple #[pgV4 (lyP (txAt qs s k)),.bool (lyWell (lyP (txAt qs s k)).2.2.2.2)]) ∧ Below w.heap.size w w' := by
 obtain ⟨wA,hwA⟩ : ∃ wA,wA = ((w.alloc (.cells #[.int .i64 z,.slice a n cap] 26)).alloc (.cells #[.int .i64 (s : Int),.int .i64 (k : Int)] 39)).alloc (.cells #[.int .i64 0,.int .i64 0,.int .i64 0,.string ⟨#[]⟩] 31) := ⟨_,rfl⟩
 have hzA : wA.heap.size = w.heap.size + 1 + 1 + 1 := by rw [hwA]; simp
 have HBA : Hid (Below w.heap.size w wA) := by rw [hwA]; exact ((((Below.refl _ _).alloc (Nat.le_refl _) _).alloc (by simp) _).alloc (by simp; omega) _)
 have H0 : Hid (wA.heap[w.heap.size]? = some (.cells #[.int .i64 z,.slice a n cap] 26)) := by rw [hwA]; exact heap_old (heap_old (heap_new _ _))
 have H1 : Hid (wA.heap[w.heap.size + 1]? = some (.cells #[.int .i64 (s : Int),.int .i64 (k : Int)] 39)) := by rw [hwA]; exact heap_old (heap_at (by simp))
 have H2 : Hid (wA.heap[w.heap.size + 1 + 1]? = some (.cells #[.int .i64 0,.int .i64 0,.int .i64 0,.string ⟨#[]⟩] 31)) := by rw [hwA]; exact heap_at (by simp)
 have HTA := hide (hT.here HBA.out)
 have HEA := hide (E.here HBA.out)
 obtain ⟨_,A,C,hx,ht⟩ := h.later HBA.out hhi
 obtain ⟨b,off,rfl,_,hb,hc⟩ := hx.2 (by omega)
 have hbA : b < wA.heap.size := by have := hx.1; omega
 obtain ⟨y0,_,_⟩ := sq_cells hc (Below.refl wA.heap.size wA) hbA hs
 obtain ⟨_,_,hpx⟩ := ht s hs
 obtain ⟨pb,po,hAs,_,hpb,hpc⟩ := hpx (by omega)
 have ytx := hpc k hk
 have hpA : pb < wA.heap.size := by have := hx.1; omega
 rw [hAs] at y0
 have etx : cellT (sqAt qs s).1 k = .string (txAt qs s k) := rfl
 rw [etx] at ytx
 obtain ⟨tx,htx⟩ : ∃ tx,tx = txAt qs s k := ⟨_,rfl⟩
 rw [<- htx] at ytx hz
 rw [<- htx]
 have hs2 : (s : Int) < (n : Int) := by omega
 obtain ⟨L,hL⟩ : ∃ L,L = (sqAt qs s).1.length := ⟨_,rfl⟩
 rw [<- hL] at y0 hk hl8
 have hk2 : (k : Int) < (L : Int) := by omega
 obtain ⟨r,hr⟩ : ∃ r,r = lyP tx := ⟨_,rfl⟩
 have HCL : ∀ w',Hid (Below wA.heap.size wA w' -> Calls Tryz.prog 102 #[.string tx] w' fun e w'' => e = .returned (lyV r) ∧ Below w'.heap.size w' w'') := fun w' hb' => by
  rw [hr]
  exact implLying_any tx w' (HTA.out.here hb') (HEA.out.here hb') hz
 rw [<- hr]
 clear h hc hx ht hpx hpc hT E htx hL hr etx hAs
 obtain ⟨r0,r1,r2,r3,r4⟩ := r
 unfold lyV at HCL
 unfold pgV4
 dsimp only at HCL ⊢
 obtain ⟨c0,c1⟩ := two_cells H0.out
 obtain ⟨d0,d1⟩ := two_cells H1.out
 have HK : ∀ w',Hid (Below wA.heap.size wA w' -> w'.cell? ⟨w.heap.size,1,none⟩ = some (.slice (some ⟨b,off,none⟩) n cap) ∧ w'.cell? ⟨w.heap.size + 1,0,none⟩ = some (.int .i64 (s : Int)) ∧ w'.cell? ⟨w.heap.size + 1,1,none⟩ = some (.int .i64 (k : Int)) ∧ w'.cell? ⟨b,off + s * 3,none⟩ = some (.slice (some ⟨pb,po,none⟩) L (C s)) ∧ w'.cell? ⟨pb,po + k,none⟩ = some (.string tx)) := fun w' hb' => ⟨(hb'.cell (p := ⟨_,_,none⟩) (by show w.heap.size < _; omega)).trans c1,(hb'.cell (p := ⟨_,_,none⟩) (by show w.heap.size + 1 < _; omega)).trans d0,(hb'.cell (p := ⟨_,_,none⟩) (by show w.heap.size + 1 < _; omega)).trans d1,(hb'.cell (p := ⟨_,_,none⟩) hbA).trans y0,(hb'.cell (p := ⟨_,_,none⟩) hpA).trans ytx⟩
 go_enter Tryz.func89,Tryz.ntmps89
 go_upto_region 1 with fail
 rw [<- hwA]
 clear hwA
 have HZA := hide hzA
 clear hzA
 go_cut [6,7] (fun v q wx => ∃ g,v = .pointer (some ⟨g,0,none⟩) ∧ q = .int .i64 r4 ∧ wA.heap.size <= g ∧ wx.heap[g]? = some (.cells #[.int .i64 r0,.int .i64 r1,.int .i64 r2,.string r3] 31) ∧ Below wA.heap.size wA wx)
 case first =>
  have HB0 : Hid (Below wA.heap.size wA wA.drew) := (Below.refl wA.heap.size wA).drew
  have HBa : Hid (Below wA.heap.size wA (wA.alloc (.cells #[.int .i64 0,.int .i64 0,.int .i64 0,.string ⟨#[]⟩] 31)).drew) := ((Below.refl wA.heap.size wA).alloc (Nat.le_refl _) _).drew
  have HEa : Hid ((wA.alloc (.cells #[.int .i64 0,.int .i64 0,.int .i64 0,.string ⟨#[]⟩] 31)).drew.heap[wA.heap.size]? = some (.cells #[.int .i64 0,.int .i64 0,.int .i64 0,.string ⟨#[]⟩] 31)) := heap_new wA _
  go_region_held3 (fun w' => w'.cell? ⟨w.heap.size,1,none⟩ = some (.slice (some ⟨b,off,none⟩) n cap) ∧ w'.cell? ⟨w.heap.size + 1,0,none⟩ = some (.int .i64 (s : Int)) ∧ w'.cell? ⟨w.heap.size + 1,1,none⟩ = some (.int .i64 (k : Int)) ∧ w'.cell? ⟨b,off + s * 3,none⟩ = some (.slice (some ⟨pb,po,none⟩) L (C s)) ∧ w'.cell? ⟨pb,po + k,none⟩ = some (.string tx))
   (first | exact (HK _).out HB0.out | exact (HK _).out HBa.out | exact (HK _).out HB5.out | exact (HK _).out HBS.out | exact (HK _).out HB6.out | exact ⟨c1,d0,d1,y0,ytx⟩ | fail)
   (first
    | (go_at_call 102; refine ((HCL _).out HB0.out).mono ?_; rintro e w5 ⟨rfl,b5⟩; have HB5 := hide (below_here HB0.out b5); have hs5 := b5.size; have HB6 := hide (HB5.out.alloc HB5.out.size (.cells #[.int .i64 0,.int .i64 0,.int .i64 0,.string ⟨#[]⟩] 31)); have HBS := hide (HB5.out.alloc HB5.out.size (.cells #[.int .i64 r0,.int .i64 r1,.int .i64 r2,.string r3] 31)); have HRS := hide (heap_new w5 (.cells #[.int .i64 r0,.int .i64 r1,.int .i64 r2,.string r3] 31)))
    | (go_at_call 102; refine ((HCL _).out HBa.out).mono ?_; rintro e w5 ⟨rfl,b5⟩; have HB5 := hide (below_here HBa.out b5); have hs5 := b5.size; have E5 := hide (block_on HEa.out b5); obtain ⟨e0,e1,e2,e3⟩ := four_cells E5.out; have f0 := four_frozen E5.out 0; have f1 := four_frozen E5.out 1; have f2 := four_frozen E5.out 2; have f3 := four_frozen E5.out 3; have HRS := hide (four_set E5.out (.int .i64 r0) (.int .i64 r1) (.int .i64 r2) (.string r3)); have HBS := hide (four_below (b := wA.heap.size) HB5.out (Nat.le_refl _) (.int .i64 r0) (.int .i64 r1) (.int .i64 r2) (.string r3))))
  all_goals
   have HG5 := hide HB5.out.size
   clear HB0 HBa HEa HK HCL c0 c1 d0 d1 y0 ytx b5 HB5 hs5
   go_wp2_with fail
   go_meet
   exact ⟨_,rfl,rfl,by first | exact HG5.out | exact Nat.le_refl _,HRS.out,HBS.out⟩
 case rest =>
  obtain ⟨g,rfl,rfl,hgl,hrs,hb5⟩ := hcut
  obtain ⟨w5,hw5⟩ : ∃ w5,w5 = wc := ⟨_,rfl⟩
  subst hw5
  have HB5 := hide (below_here HBA.out hb5)
  have K2 := hide (block_on H2.out hb5)
  have hzA := HZA.out
  have hs5 := hb5.size
  clear hb5 HK HCL c0 c1 d0 d1 y0 ytx
  obtain ⟨e0,e1,e2,e3⟩ := four_cells hrs
  obtain ⟨p0,p1,p2,p3⟩ := four_cells K2.out
  have f0 := four_frozen K2.out 0
  have f1 := four_frozen K2.out 1
  have f2 := four_frozen K2.out 2
  have f3 := four_frozen K2.out 3
  have HRS := hide (four_set K2.out (.int .i64 r0) (.int .i64 r1) (.int .i64 r2) (.string r3))
  have HBS := hide (four_below (b := w.heap.size + 1 + 1) HB5.out (by omega) (.int .i64 r0) (.int .i64 r1) (.int .i64 r2) (.string r3))
  have HLW : Hid (lyWell r4 = ((r4 == 1) || (r4 == 2))) := rfl
  by_cases h1 : r4 = 1
  ·subst h1
   go_wp2_with fail
   refine bodyPost_ret (results_ct rfl rfl (run_loadVar_row _ _ _ _ _ _ _ HRS.out Tryz.underlying31 rfl (by kernel_rfl))) rfl ⟨rfl,HBS.out⟩
  ·have g1 : (r4 == 1) = false := by simpa using h1
   rw [g1] at HLW
   go_wp2_with fail
   refine bodyPost_ret (results_ct rfl rfl (run_loadVar_row _ _ _ _ _ _ _ HRS.out Tryz.underlying31 rfl (by kernel_rfl))) rfl ⟨by rw [HLW.out]; rfl,HBS.out⟩
theorem pgOf_there {z : Int} {qs : List Sq} {s k : Nat} (hok : chipOk z qs = true) (hs : s < qs.length) (hk : k < (sqAt qs s).1.length) : pgOf z qs ((s : Int),(k : Int)) = lyP (txAt qs s k) := by
 unfold pgOf
 congr 1
 unfold pageAt txAt inB
 rw [hok]
 simp only [Int.toNat_natCast]
 rw [if_pos]
 simp only [Bool.true_and,Bool.and_eq_true,decide_eq_true_eq]
 omega
end Go.Proofs.YtgjoepdfhadmcaaGreatDoor
end

section
namespace Go.Proofs.YtgjoepdfhadmcaaGreatDoor
open Go.RowKit
set_option linter.unusedVariables false
set_option maxRecDepth 20000
theorem ftlOk_is (z : Int) (qs : List Sq) (ps : List Pl) (op st : Int) : ftlOk z qs ps op st = (mapOk z qs ps && (mayOp qs op && (!decide (st < 0) && (!decide (st > 1000000) && (List.range ps.length).all (fpOk z qs ps st))))) := by
 unfold ftlOk
 rw [mayOp_is]
 have e : inB st 0 1000000 = (!decide (st < 0) && !decide (st > 1000000)) := by
  unfold inB
  rw [Bool.eq_iff_iff]
  simp
 rw [e]
 cases mapOk z qs ps <;> cases inB op (-1) ((qs.length : Int) - 1) <;> cases opOk qs op <;> cases decide (st < 0) <;> cases decide (st > 1000000) <;> simp
set_option maxHeartbeats 6400000 in
theorem implFtlOk_any (z : Int) (a : Option Addr) (n cap : Nat) (qs : List Sq) (am : Option Addr) (m cm : Nat) (ps : List Pl) (op st : Int) (w : World) {lo hi lo' hi' : Nat} (h : Squares lo hi w a n qs) (hhi : hi <= w.heap.size) (hn : n <= 1048576) (hf : ∀ x ∈ qs,sqFits x) (hp : Places lo' hi' w am m ps) (hhi' : hi' <= w.heap.size) (hm : m <= 1048576) (hcl : m <= cm) (hT : Tab w) {aB aL aS aC aF : Addr} (E : Errs w aB aL aS aC aF) :
  Calls Tryz.prog 19 #[.agg #[.int .i64 z,.slice a n cap,.slice am m cm,.int .i64 op,.int .i64 st]] w fun e w' => e = .returned (.bool (ftlOk z qs ps op st)) ∧ Below w.heap.size w w' := by
 obtain ⟨wA,hwA⟩ : ∃ wA,wA = w.alloc (.cells #[.int .i64 z,.slice a n cap,.slice am m cm,.int .i64 op,.int .i64 st] 29) := ⟨_,rfl⟩
 have hzA : wA.heap.size = w.heap.size + 1 := by rw [hwA]; simp
 have HBA : Hid (Below w.heap.size w wA) := by rw [hwA]; exact (Below.refl _ _).alloc (Nat.le_refl _) _
 have H1 : Hid (wA.heap[w.heap.size]? = some (.cells #[.int .i64 z,.slice a n cap,.slice am m cm,.int .i64 op,.int .i64 st] 29)) := by rw [hwA]; exact heap_new _ _
 have HSQ := hide (h.later HBA.out hhi)
 have HPL := hide (hp.later HBA.out hhi')
 have HL := hide h.1
 have HLP := hide hp.1
 have HF := hide hf
 have HTA := hide (hT.here HBA.out)
 have HEA := hide (E.here HBA.out)
 have HFT := hide (ftlOk_is z qs ps op st)
 clear h hf hp hT E
 obtain ⟨c0,c1,c2,c3,c4⟩ := five_cells H1.out
 go_enter Tryz.func19,Tryz.ntmps19
 go_wp2_with fail
 rw [<- hwA]
 clear hwA
 refine (implMapOk_any z a n cap qs am m cm ps wA HSQ.out (by omega) hn HF.out HPL.out (by omega) hm hcl).mono ?_
 rintro e w1 ⟨rfl,b1⟩
 have K1 := hide (block_on H1.out b1)
 have HS1 := hide (HSQ.out.later b1 (by omega))
 have HP1 := hide (HPL.out.later b1 (by omega))
 have HB1 := hide (below_here HBA.out b1)
 have HT1 := hide (HTA.out.here b1)
 have HE1 := hide (HEA.out.here b1)
 have hs1 := b1.size
 clear b1 H1 HSQ HPL HBA HTA HEA c0 c1 c2 c3 c4
 obtain ⟨c0,c1,c2,c3,c4⟩ := five_cells K1.out
 cases hok : mapOk z qs ps with
 | false =>
  have HE : Hid (ftlOk z qs ps op st = false) := by show _ = _; rw [HFT.out,hok]; rfl
  go_wp2_with fail
  go_ret
  exact ⟨ret_bool HE.out.symm,HB1.out⟩
 | true =>
  have HCK := hide (mapOk_chip hok)
  have HMR := hide (mapR_of hok)
  have hn12 : n <= 12 := by have := (chipOk_parts (mapOk_chip hok)).2.2.2.1; rw [HL.out] at this; exact this
  have hm64 : m <= 64 := by have := (mapOk_len hok).2; rw [HLP.out] at this; exact this
  rw [hok,Bool.true_and] at HFT
  clear hok
  go_wp2_with fail
  refine (mayBeOpen_any z a n cap qs op w1 HS1.out (by omega) hn).mono ?_
  rintro e w2 ⟨rfl,b2⟩
  have K2 := hide (block_on K1.out b2)
  have HS2 := hide (HS1.out.later b2 (by omega))
  have HP2 := hide (HP1.out.later b2 (by omega))
  have HB2 := hide (below_here HB1.out b2)
  have HT2 := hide (HT1.out.here b2)
  have HE2 := hide (HE1.out.here b2)
  have hs2 := b2.size
  clear b2 K1 HS1 HP1 HB1 HT1 HE1 c0 c1 c2 c3 c4
  obtain ⟨c0,c1,c2,c3,c4⟩ := five_cells K2.out
  cases hmo : mayOp qs op with
  | false =>
   have HE : Hid (ftlOk z qs ps op st = false) := by show _ = _; rw [HFT.out,hmo]; rfl
   go_wp2_with fail
   go_ret
   exact ⟨ret_bool HE.out.symm,HB2.out⟩
  | true =>
   rw [hmo,Bool.true_and] at HFT
   clear hmo
   by_cases hs0 : st < 0
   ·have g0 : decide (st < 0) = true := by simpa using hs0
    have HE : Hid (ftlOk z qs ps op st = false) := by show _ = _; rw [HFT.out,g0]; rfl
    go_wp2_with fail
    go_ret
    exact ⟨ret_bool HE.out.symm,HB2.out⟩
   ·have g0 : decide (st < 0) = false := by simpa using hs0
    rw [g0,Bool.not_false,Bool.true_and] at HFT
    by_cases hs1' : st > 1000000
    ·have g1 : decide (st > 1000000) = true := by simpa using hs1'
     have HE : Hid (ftlOk z qs ps op st = false) := by show _ = _; rw [HFT.out,g1]; rfl
     go_wp2_with fail
     go_ret
     exact ⟨ret_bool HE.out.symm,HB2.out⟩
    ·have g1 : decide (st > 1000000) = false := by simpa using hs1'
     rw [g1,Bool.not_false,Bool.true_and] at HFT
     go_wp2_with fail
     go_loopw [34] (fun i wr => ∃ k : Nat,k <= m ∧ i = .int .i64 (k : Int) ∧ (List.range k).all (fpOk z qs ps st) = true ∧ Below w2.heap.size w2 wr) (fun i _ => m - (intOf i).toNat)
     case atStart => exact ⟨0,Nat.zero_le _,rfl,rfl,Below.refl _ _⟩
     case round =>
      obtain ⟨k,hk,rfl,hall,hbel⟩ := hrel
      have HAL := hide hall
      have HBB := hide hbel
      have hszr := hbel.size
      clear hall c0 c1 c2 c3 c4
      have KR := hide (block_on K2.out hbel)
      obtain ⟨a0,a1,a2,a3,a4⟩ := five_cells KR.out
      by_cases hlt : k < m
      ·have hpl : k < ps.length := by rw [HLP.out]; exact hlt
       have hlt2 : (k : Int) < (m : Int) := by omega
       have HTH := hide (HMR.out.there k hpl)
       obtain ⟨b,off,rfl,_,hb,hc⟩ := HP2.out.2.2 (by omega)
       have hbs : b < w2.heap.size := by have := HP2.out.2.1; omega
       obtain ⟨c0,c1⟩ := pl_cells hc hbel hbs hlt
       have HFA : Hid (fpOk z qs ps st k = false -> ftlOk z qs ps op st = false) := fun hh => ftlOk_fall hpl hh
       have HST : Hid (fpOk z qs ps st k = true -> (List.range (k + 1)).all (fpOk z qs ps st) = true) := fun hh => all_range_step HAL.out hh
       have HPO : Hid (fpOk z qs ps st k = ((((plAt ps k).1 == -1) && ((plAt ps k).2 == 0)) || (lyWell (pgOf z qs (plAt ps k)).2.2.2.2 && (((pgOf z qs (plAt ps k)).2.1 == (k : Int)) && !(decide ((pgOf z qs (plAt ps k)).2.2.1 > st)))))) := by
        show _ = _
        unfold fpOk
        rw [pl_eq]
       clear hc hbel
       obtain ⟨y,hy⟩ : ∃ y,y = plAt ps k := ⟨_,rfl⟩
       rw [<- hy] at c0 c1 HPO HTH
       clear hy
       obtain ⟨p,q⟩ := y
       dsimp only at c0 c1 HPO
       obtain ⟨wV,hwV⟩ : ∃ wV,wV = wr.alloc (.cells #[.int .i64 p,.int .i64 q] 39) := ⟨_,rfl⟩
       have HBV : Hid (Below wr.heap.size wr wV) := by rw [hwV]; exact (Below.refl _ _).alloc (Nat.le_refl _) _
       have HV : Hid (wV.heap[wr.heap.size]? = some (.cells #[.int .i64 p,.int .i64 q] 39)) := by rw [hwV]; exact heap_new _ _
       go_wp2_with fail
       rw [<- hwV]
       clear hwV
       refine (isNone_any p q wV).mono ?_
       rintro e w3 ⟨rfl,b3⟩
       have HB3 := hide (below_here HBV.out b3)
       have KV := hide (block_on HV.out b3)
       clear b3 a0 a1 a2 a3 a4 c0 c1
       cases hnone : ((p == -1) && (q == 0)) with
       | true =>
        have HOK := hide (HST.out (by rw [HPO.out,hnone]; rfl))
        have HBR := hide (below_here HBB.out HB3.out)
        go_wp2_with fail
        go_roundw
        case rel => exact ⟨k + 1,by omega,by go_num,HOK.out,HBR.out⟩
        case measure => simp [intOf]; omega
       | false =>
        obtain ⟨s,j,he,hsl,hjl⟩ : ∃ s j : Nat,(p,q) = ((s : Int),(j : Int)) ∧ s < qs.length ∧ j < (sqAt qs s).1.length := by
         rcases HTH.out with e1 | e1
         ·simp only [Prod.mk.injEq] at e1
          rw [e1.1,e1.2] at hnone
          simp at hnone
         ·exact plThere_iff.1 e1
        simp only [Prod.mk.injEq] at he
        obtain ⟨rfl,rfl⟩ := he
        have HPG := hide (pgOf_there HCK.out hsl hjl)
        have hsq := sqOk_parts (chipOk_at HCK.out hsl)
        have hl8 : (sqAt qs s).1.length <= 8 := by have := hsq.1; have := (chipOk_parts HCK.out).2.1; omega
        have htz : (txAt qs s j).size <= 1048576 := by
         have := (hsq.2.2.2 (txAt qs s j) (by unfold txAt; rw [List.getD_eq_getElem?_getD,List.getElem?_eq_getElem hjl]; exact List.getElem_mem _)).2
         omega
        have HBR := hide (below_here HBB.out HB3.out)
        have KR3 := hide (block_on KR.out HB3.out)
        have hs3 := HBR.out.size
        obtain ⟨a0,a1,a2,a3,a4⟩ := five_cells KR3.out
        obtain ⟨v0,v1⟩ := two_cells KV.out
        go_wp2_with fail
        refine (pageLying_any z a n cap qs s j w3 (HS2.out.later HBR.out (by omega)) (by omega) (by rw [<- HL.out]; exact hsl) hjl hl8 hn htz (HT2.out.here HBR.out) (HE2.out.here HBR.out)).mono ?_
        rintro e w4 ⟨rfl,b4⟩
        have HPO2 : Hid (fpOk z qs ps st k = (lyWell (lyP (txAt qs s j)).2.2.2.2 && (((lyP (txAt qs s j)).2.1 == (k : Int)) && !(decide ((lyP (txAt qs s j)).2.2.1 > st))))) := by show _ = _; rw [HPO.out,hnone,HPG.out]; rfl
        obtain ⟨r,hr⟩ : ∃ r,r = lyP (txAt qs s j) := ⟨_,rfl⟩
        rw [<- hr] at HPO2
        rw [<- hr]
        clear hr hnone HPO HPG
        obtain ⟨r0,r1,r2,r3,r4⟩ := r
        unfold pgV4
        dsimp only at HPO2 ⊢
        have HB4 := hide (below_here HBR.out b4)
        have KR4 := hide (block_on KR3.out b4)
        clear b4 a0 a1 a2 a3 a4 v0 v1
        obtain ⟨wP,hwP⟩ : ∃ wP,wP = w4.alloc (.cells #[.int .i64 r0,.int .i64 r1,.int .i64 r2,.string r3] 31) := ⟨_,rfl⟩
        have HBP : Hid (Below w4.heap.size w4 wP) := by rw [hwP]; exact (Below.refl _ _).alloc (Nat.le_refl _) _
        have HP : Hid (wP.heap[w4.heap.size]? = some (.cells #[.int .i64 r0,.int .i64 r1,.int .i64 r2,.string r3] 31)) := by rw [hwP]; exact heap_new _ _
        have KRP := hide (block_on KR4.out HBP.out)
        have HB5 := hide (below_here HB4.out HBP.out)
        have HB6 := hide (below_here HB2.out HB5.out)
        obtain ⟨a0,a1,a2,a3,a4⟩ := five_cells KRP.out
        obtain ⟨e0,e1,e2,e3⟩ := four_cells HP.out
        cases hw : lyWell r4 with
        | false =>
         have HE := hide (HFA.out (by rw [HPO2.out,hw]; rfl))
         go_wp2_with fail
         rw [<- hwP]
         go_ret
         exact ⟨ret_bool HE.out.symm,HB6.out⟩
        | true =>
         rw [hw,Bool.true_and] at HPO2
         clear hw
         go_upto_region 8 with fail
         rw [<- hwP]
         clear hwP
         have HPO3 : Hid ((!(fpOk z qs ps st k)) = !((r1 == (k : Int)) && !(decide (r2 > st)))) := by show _ = _; rw [HPO2.out]
         go_cut [62] from 35 to 63 (fun d wx => d = .bool (!(fpOk z qs ps st k)) ∧ Below wP.heap.size wP wx)
         case first =>
          by_cases h1 : r1 = (k : Int)
          ·subst h1
           rw [show ((k : Int) == (k : Int)) = true by simp,Bool.true_and,Bool.not_not] at HPO3
           go_wp2_with fail
           go_meet
           exact ⟨by rw [HPO3.out],Below.refl _ _⟩
          ·rw [show (r1 == (k : Int)) = false by simpa using h1,Bool.false_and,Bool.not_false] at HPO3
           go_wp2_with fail
           go_meet
           exact ⟨by rw [HPO3.out],Below.refl _ _⟩
         case rest =>
          obtain ⟨rfl,hbc⟩ := hcut
          have HB7 := hide (below_here HB5.out hbc)
          have HB8 := hide (below_here HB6.out hbc)
          clear hbc
          cases hfp : fpOk z qs ps st k with
          | true =>
           have HOK := hide (HST.out hfp)
           simp only [Bool.not_true]
           go_wp2_with fail
           go_roundw
           case rel => exact ⟨k + 1,by omega,by go_num,HOK.out,HB7.out⟩
           case measure => simp [intOf]; omega
          | false =>
           have HE := hide (HFA.out hfp)
           simp only [Bool.not_false]
           go_wp2_with fail
           go_ret
           exact ⟨ret_bool HE.out.symm,HB8.out⟩
      ·obtain rfl : k = m := by omega
       have HE : Hid (ftlOk z qs ps op st = true) := by show _ = _; rw [HFT.out,HLP.out]; exact HAL.out
       have HBR := hide (below_here HB2.out HBB.out)
       clear hbel
       go_wp2_with fail
       go_ret
       exact ⟨ret_bool HE.out.symm,HBR.out⟩
end Go.Proofs.YtgjoepdfhadmcaaGreatDoor
end

section
namespace Go.Proofs.YtgjoepdfhadmcaaGreatDoor
open Go.RowKit
set_option linter.unusedVariables false
set_option maxRecDepth 20000
set_option maxHeartbeats 400000 in
theorem isCacheRoom_any (rm : Int) (w : World) : Calls Tryz.prog 116 #[.int .i64 rm] w fun e w' => e = .returned (.bool (inB rm 1 16)) ∧ w = w' := by
 by_cases h1 : 1 <= rm
 ·have HE : Hid (inB rm 1 16 = decide (rm <= 16)) := by show _ = _; simp [inB,h1]
  have g1 : decide (rm >= 1) = true := by simpa using h1
  go_enter Tryz.func116,Tryz.ntmps116
  go_wp2_with fail
  go_ret
  exact ⟨ret_bool HE.out.symm,rfl⟩
 ·have HE : Hid (inB rm 1 16 = false) := by show _ = _; simp [inB,h1]
  have g1 : decide (rm >= 1) = false := by simpa using h1
  go_enter Tryz.func116,Tryz.ntmps116
  go_wp2_with fail
  go_ret
  exact ⟨ret_bool HE.out.symm,rfl⟩
set_option maxHeartbeats 800000 in
theorem mayHold_any (v0 v1 : Value) (am : Option Addr) (m cm : Nat) (v3 v4 : Value) (at_ : Int) (tx : ByteArray) (w : World) (hm : m <= maxLen) (htx : tx.size <= maxLen) :
  Calls Tryz.prog 107 #[.agg #[v0,v1,.slice am m cm,v3,v4],.int .i64 at_,.string tx] w fun e w' => e = .returned (.bool (inB at_ 0 ((m : Int) - 1) && decide (tx.size <= 24))) ∧ Below w.heap.size w w' := by
 obtain ⟨wA,hwA⟩ : ∃ wA,wA = w.alloc (.cells #[v0,v1,.slice am m cm,v3,v4] 29) := ⟨_,rfl⟩
 have HBA : Hid (Below w.heap.size w wA) := by rw [hwA]; exact (Below.refl _ _).alloc (Nat.le_refl _) _
 have H1 : Hid (wA.heap[w.heap.size]? = some (.cells #[v0,v1,.slice am m cm,v3,v4] 29)) := by rw [hwA]; exact heap_new _ _
 obtain ⟨c0,c1,c2,c3,c4⟩ := five_cells H1.out
 unfold maxLen at htx
 go_enter Tryz.func107,Tryz.ntmps107
 go_wp2_with fail
 rw [<- hwA]
 clear hwA
 refine (hasNumber_any v0 v1 am m cm v3 v4 at_ wA hm).mono ?_
 rintro e w1 ⟨rfl,b1⟩
 have HB1 := hide (below_here HBA.out b1)
 clear b1 c0 c1 c2 c3 c4
 cases hin : inB at_ 0 ((m : Int) - 1) with
 | false =>
  go_wp2_with fail
  go_ret
  exact ⟨ret_bool (by rw [hin]; rfl),HB1.out⟩
 | true =>
  have HE : Hid (decide ((tx.size : Int) <= 24) = decide (tx.size <= 24)) := by show _ = _; congr 1; simp; omega
  go_wp2_with fail
  go_ret
  exact ⟨ret_bool (by rw [HE.out,hin]; rfl),HB1.out⟩
theorem itemFn_any (x : Int) (tx : ByteArray) (d : Bool) (p : Nat) (a : Int) (w : World) (hp : w.cell? ⟨p,0,none⟩ = some (.int .i64 a)) (hpl : p < w.heap.size) :
  Calls Tryz.prog 168 #[.agg #[.int .i64 x,.string tx,.bool d],.pointer (some ⟨p,0,none⟩)] w fun e w' => e = .returned (.bool (x == a)) ∧ Below w.heap.size w w' := by
 obtain ⟨wA,hwA⟩ : ∃ wA,wA = w.alloc (.cells #[.int .i64 x,.string tx,.bool d] 83) := ⟨_,rfl⟩
 have HBA : Hid (Below w.heap.size w wA) := by rw [hwA]; exact (Below.refl _ _).alloc (Nat.le_refl _) _
 have H1 : Hid (wA.heap[w.heap.size]? = some (.cells #[.int .i64 x,.string tx,.bool d] 83)) := by rw [hwA]; exact heap_new _ _
 have hp2 := (HBA.out.cell (p := ⟨p,0,none⟩) hpl).trans hp
 obtain ⟨c0,c1,c2⟩ := three_cells H1.out
 rw [hwA] at hp2 c0
 go_enter Tryz.func168,Tryz.ntmps168
 go_wp2_with fail
 rw [<- hwA]
 go_ret
 exact ⟨rfl,HBA.out⟩
set_option maxHeartbeats 1600000 in
theorem indexHeld_any (ai : Option Addr) (ni ci : Nat) (ys : List Hd) (p : Nat) (a : Int) (w : World) {l1 r1 : Nat} (hy : Helds l1 r1 w ai ni ys) (hr1 : r1 <= w.heap.size) (hni : ni <= 1048576) (hp : w.cell? ⟨p,0,none⟩ = some (.int .i64 a)) (hpl : p < w.heap.size) :
  Calls Tryz.prog 167 #[.slice ai ni ci,.func (.func 168) #[] #[.pointer (some ⟨p,0,none⟩)]] w fun e w' => e = .returned (.int .i64 (idxH ys a)) ∧ Below w.heap.size w w' := by
 have HY := hide hy.2
 have HL := hide hy.1
 have hl := hy.1
 clear hy
 go_enter Tryz.func167,Tryz.ntmps167
 go_wp2_with fail
 go_loopw [8] (fun i wr => ∃ k : Nat,k <= ni ∧ i = .int .i64 (k : Int) ∧ (∀ j,j < k -> (hdAt ys j).1 ≠ a) ∧ Below w.heap.size w wr) (fun i _ => ni - (intOf i).toNat)
 case atStart => exact ⟨0,Nat.zero_le _,rfl,fun j hj => absurd hj (by omega),Below.refl _ _⟩
 case round =>
  obtain ⟨k,hk,rfl,hall,hbel⟩ := hrel
  have HAL := hide hall
  have HBL := hide hbel
  by_cases hlt : k < ni
  ·obtain ⟨b,off,rfl,hb1,hb2,hc⟩ := HY.out.2 (by omega)
   obtain ⟨x0,x1,x2⟩ := hd_cells hc hbel (show b < w.heap.size by omega) hlt
   have hpr := (hbel.cell (p := ⟨p,0,none⟩) hpl).trans hp
   have hsr := hbel.size
   have hkn : (k : Int) < (ni : Int) := by omega
   clear hall hc hbel
   have HHI := hide (fun he => idxH_hit (ys := ys) (a := a) (k := k) (by omega) he HAL.out)
   generalize hx : hdAt ys k = x at *
   obtain ⟨xa,xt,xd⟩ := x
   dsimp only at x0 x1 x2 HHI
   go_wp2_with fail
   refine (itemFn_any xa xt xd p a wr hpr (by omega)).mono ?_
   rintro e w1 ⟨rfl,b1⟩
   have HB1 := hide (below_here HBL.out b1)
   clear b1 x0 x1 x2
   by_cases heq : xa = a
   ·have g1 : (xa == a) = true := by simpa using heq
    have HI := hide (HHI.out heq)
    rw [g1]
    go_wp2_with fail
    go_ret
    exact ⟨ret_i64 (by rw [HI.out]),HB1.out⟩
   ·have g1 : (xa == a) = false := by simpa using heq
    rw [g1]
    go_wp2_with fail
    go_roundw
    case rel => exact ⟨k + 1,by omega,by go_num,fun j hj => by
     by_cases e : j = k
     ·subst e; rw [hx]; exact heq
     ·exact HAL.out j (by omega),HB1.out⟩
    case measure => simp [intOf]; omega
  ·obtain rfl : k = ni := by omega
   have HI := hide (idxH_none (ys := ys) (a := a) (fun j hj => HAL.out j (by omega)))
   go_wp2_with fail
   go_ret
   exact ⟨ret_i64 (by rw [HI.out]),hbel⟩
set_option maxHeartbeats 800000 in
theorem itemOf_any (ai : Option Addr) (ni ci : Nat) (ys : List Hd) (a : Int) (w : World) {l1 r1 : Nat} (hy : Helds l1 r1 w ai ni ys) (hr1 : r1 <= w.heap.size) (hni : ni <= 1048576) :
  Calls Tryz.prog 119 #[.slice ai ni ci,.int .i64 a] w fun e w' => e = .returned (.int .i64 (idxH ys a)) ∧ Below w.heap.size w w' := by
 obtain ⟨wA,hwA⟩ : ∃ wA,wA = w.alloc (.cells #[.int .i64 a] 2) := ⟨_,rfl⟩
 have hzA : wA.heap.size = w.heap.size + 1 := by rw [hwA]; simp
 have HBA : Hid (Below w.heap.size w wA) := by rw [hwA]; exact (Below.refl _ _).alloc (Nat.le_refl _) _
 have H1 : wA.cell? ⟨w.heap.size,0,none⟩ = some (.int .i64 a) := by
  have : wA.heap[w.heap.size]? = some (.cells #[.int .i64 a] 2) := by rw [hwA]; exact heap_new _ _
  simp [World.cell?,this]
 have HY := hide (hy.later HBA.out hr1)
 clear hy
 go_enter Tryz.func119,Tryz.ntmps119
 go_wp2_with fail
 rw [<- hwA]
 clear hwA
 refine (indexHeld_any ai ni ci ys w.heap.size a wA HY.out (by omega) hni H1 (by omega)).mono ?_
 rintro e w1 ⟨rfl,b1⟩
 have HB1 := hide (below_here HBA.out b1)
 clear b1
 go_wp2_with fail
 go_ret
 exact ⟨rfl,HB1.out⟩
set_option maxHeartbeats 3200000 in
theorem implCacheOk_any (rm : Int) (ai : Option Addr) (ni ci : Nat) (ys : List Hd) (z : Int) (a : Option Addr) (n cap : Nat) (qs : List Sq) (am : Option Addr) (m cm : Nat) (ps : List Pl) (op st : Int) (w : World) {l1 r1 lo hi lo' hi' : Nat} (hy : Helds l1 r1 w ai ni ys) (hr1 : r1 <= w.heap.size) (hni : ni <= 1048576) (hfy : ∀ x ∈ ys,hdFits x) (h : Squares lo hi w a n qs) (hhi : hi <= w.heap.size) (hn : n <= 1048576) (hf : ∀ x ∈ qs,sqFits x) (hp : Places lo' hi' w am m ps) (hhi' : hi' <= w.heap.size) (hm : m <= 1048576) (hcl : m <= cm) (hT : Tab w) {aB aL aS aC aF : Addr} (E : Errs w aB aL aS aC aF) :
  Calls Tryz.prog 46 #[.agg #[.int .i64 rm,.slice ai ni ci,.int .i64 z,.slice a n cap,.slice am m cm,.int .i64 op,.int .i64 st]] w fun e w' => e = .returned (.bool (cacheOk ⟨rm,ys,⟨z,qs,ps,op,st⟩⟩)) ∧ Below w.heap.size w w' := by
 obtain ⟨wA,hwA⟩ : ∃ wA,wA = w.alloc (.cells #[.int .i64 rm,.slice ai ni ci,.int .i64 z,.slice a n cap,.slice am m cm,.int .i64 op,.int .i64 st] 65) := ⟨_,rfl⟩
 have hzA : wA.heap.size = w.heap.size + 1 := by rw [hwA]; simp
 have HBA : Hid (Below w.heap.size w wA) := by rw [hwA]; exact (Below.refl _ _).alloc (Nat.le_refl _) _
 have H1 : Hid (wA.heap[w.heap.size]? = some (.cells #[.int .i64 rm,.slice ai ni ci,.int .i64 z,.slice a n cap,.slice am m cm,.int .i64 op,.int .i64 st] 65)) := by rw [hwA]; exact heap_new _ _
 have HYA := hide (hy.later HBA.out hr1)
 have HSA := hide (h.later HBA.out hhi)
 have HPA := hide (hp.later HBA.out hhi')
 have HF := hide hf
 have HFY := hide hfy
 have HT := hide (hT.here HBA.out)
 have HER := hide (E.here HBA.out)
 have hl := hy.1
 have hlp := hp.1
 clear h hp hy hf hfy hT E
 obtain ⟨c0,c1,c2,c3,c4,c5,c6⟩ := seven_cells H1.out
 go_enter Tryz.func46,Tryz.ntmps46
 go_wp2_with fail
 rw [<- hwA]
 clear hwA
 refine (isCacheRoom_any rm wA).mono ?_
 rintro e w1 ⟨rfl,rfl⟩
 cases hroom : inB rm 1 16 with
 | false =>
  have HE := hide (cacheOk_room (c := ⟨rm,ys,⟨z,qs,ps,op,st⟩⟩) hroom)
  go_wp2_with fail
  go_ret
  exact ⟨ret_bool HE.out.symm,HBA.out⟩
 | true =>
  have hrr := hroom
  unfold inB at hrr
  simp only [Bool.and_eq_true,decide_eq_true_eq] at hrr
  by_cases hle : (ni : Int) <= rm
  ·have g1 : decide ((ni : Int) > rm) = false := by simpa using hle
   go_wp2_with fail
   refine (implFtlOk_any z a n cap qs am m cm ps op st wA HSA.out (by omega) hn HF.out HPA.out (by omega) hm hcl HT.out HER.out).mono ?_
   rintro e w2 ⟨rfl,b2⟩
   have K1 := hide (block_on H1.out b2)
   have HB2 := hide (below_here HBA.out b2)
   have HY2 := hide (HYA.out.later b2 (by omega))
   have hs2 := b2.size
   clear b2 c0 c1 c2 c3 c4 c5 c6
   cases hfo : ftlOk z qs ps op st with
   | false =>
    have HE := hide (cacheOk_ftl (c := ⟨rm,ys,⟨z,qs,ps,op,st⟩⟩) hfo)
    go_wp2_with fail
    go_ret
    exact ⟨ret_bool HE.out.symm,HB2.out⟩
   | true =>
    have HE := hide (cacheOk_rest (c := ⟨rm,ys,⟨z,qs,ps,op,st⟩⟩) hroom (by show (ys.length : Int) <= rm; rw [hl]; exact hle) hfo)
    have RB : ∀ (bb : Bool),(List.range ys.length).all (itOk m ys) = bb -> Ending.returned (.bool bb) = .returned (.bool (cacheOk ⟨rm,ys,⟨z,qs,ps,op,st⟩⟩)) := fun bb hb => by
     rw [HE.out]; show _ = Ending.returned (.bool ((List.range ys.length).all (itOk ps.length ys))); rw [hlp,hb]
    have HRB := hide RB
    clear RB
    obtain ⟨c0,c1,c2,c3,c4,c5,c6⟩ := seven_cells K1.out
    clear hfo hroom
    go_wp2_with fail
    clear c0 c1 c2 c3 c4 c5 c6
    go_loopw [26] (fun i wr => ∃ k : Nat,k <= ni ∧ i = .int .i64 (k : Int) ∧ (∀ j,j < k -> itOk m ys j = true) ∧ Below w2.heap.size w2 wr) (fun i _ => ni - (intOf i).toNat)
    case atStart => exact ⟨0,Nat.zero_le _,rfl,fun j hj => absurd hj (by omega),Below.refl _ _⟩
    case round =>
     obtain ⟨k,hk,rfl,hall,hbel⟩ := hrel
     have KR := hide (block_on K1.out hbel)
     have HBR := hide (below_here HB2.out hbel)
     have HAL := hide hall
     have hsr := hbel.size
     by_cases hlt : k < ni
     ·have hkl : k < ys.length := by omega
      have HYR := hide (HY2.out.later hbel (by omega))
      obtain ⟨b,off,hai,hb1,hb2,hc⟩ := HY2.out.2.2 (by omega)
      obtain ⟨x0,x1,x2⟩ := hd_cells hc hbel (show b < w2.heap.size by omega) hlt
      have HBL := hide hbel
      have hkn : (k : Int) < (ni : Int) := by omega
      have hx9 : (hdAt ys k).2.1.size <= maxLen := (hd_fits HFY.out hkl).2
      have HIB := hide (itOk_idx (m := m) hkl)
      have HNO := hide (fun hh => items_no (m := m) (ys := ys) hkl hh)
      clear hall hc hbel
      subst hai
      generalize hx : hdAt ys k = x at *
      obtain ⟨xa,xt,xd⟩ := x
      dsimp only at x0 x1 x2 hx9 HIB
      obtain ⟨wI,hwI⟩ : ∃ wI,wI = wr.alloc (.cells #[.int .i64 xa,.string xt,.bool xd] 83) := ⟨_,rfl⟩
      have HBI : Hid (Below wr.heap.size wr wI) := by rw [hwI]; exact (Below.refl _ _).alloc (Nat.le_refl _) _
      have HI : Hid (wI.heap[wr.heap.size]? = some (.cells #[.int .i64 xa,.string xt,.bool xd] 83)) := by rw [hwI]; exact heap_new _ _
      have hzI : wI.heap.size = wr.heap.size + 1 := by rw [hwI]; simp
      have KI := hide (block_on KR.out HBI.out)
      obtain ⟨i0,i1,i2⟩ := three_cells HI.out
      obtain ⟨d0,d1,d2,d3,d4,d5,d6⟩ := seven_cells KI.out
      rw [hwI] at i0 i1 i2 d0 d1 d2 d3 d4 d5 d6
      go_wp2_with fail
      rw [<- hwI]
      clear hwI i0 i1 i2 d0 d1 d2 d3 d4 d5 d6 x0 x1 x2
      refine (mayHold_any _ _ am m cm _ _ xa xt wI (by unfold maxLen; omega) hx9).mono ?_
      rintro e w3 ⟨rfl,b3⟩
      have HB3 := hide (below_here HBI.out b3)
      have hs3 := b3.size
      have K3 := hide (block_on KI.out b3)
      have I3 := hide (block_on HI.out b3)
      clear b3
      obtain ⟨i0,i1,i2⟩ := three_cells I3.out
      obtain ⟨d0,d1,d2,d3,d4,d5,d6⟩ := seven_cells K3.out
      cases hmay : (inB xa 0 ((m : Int) - 1) && decide (xt.size <= 24)) with
      | false =>
       have HNX := hide (HNO.out (by rw [HIB.out,<- Bool.and_assoc,hmay]; rfl))
       go_wp2_with fail
       go_ret
       exact ⟨HRB.out _ HNX.out,below_here HBR.out HB3.out⟩
      | true =>
       have HI2 : Hid (itOk m ys k = (idxH ys xa == (k : Int))) := by show _ = _; rw [HIB.out,<- Bool.and_assoc,hmay]; rfl
       go_wp2_with fail
       refine (itemOf_any (some ⟨b,off,none⟩) ni ci ys xa w3 (HYR.out.later HB3.out (by omega)) (by omega) hni).mono ?_
       rintro e w4 ⟨rfl,b4⟩
       have HB4 := hide (below_here HB3.out b4)
       clear b4 i0 i1 i2 d0 d1 d2 d3 d4 d5 d6 hmay HIB
       by_cases heq : idxH ys xa = (k : Int)
       ·have HOK : Hid (itOk m ys k = true) := by show _ = _; rw [HI2.out,heq]; simp
        rw [heq]
        go_wp2_with fail
        go_roundw
        case rel => exact ⟨k + 1,by omega,by go_num,fun t ht => by
         by_cases e : t = k
         ·subst e; exact HOK.out
         ·exact HAL.out t (by omega),below_here HBL.out HB4.out⟩
        case measure => simp [intOf]; omega
       ·have g4 : (idxH ys xa == (k : Int)) = false := by simpa using heq
        have HNX := hide (HNO.out (by rw [HI2.out,g4]))
        generalize idxH ys xa = ix at *
        go_wp2_with fail
        go_ret
        exact ⟨HRB.out _ HNX.out,below_here HBR.out HB4.out⟩
     ·obtain rfl : k = ni := by omega
      have HA := hide (items_yes (m := m) (ys := ys) (fun i hi => HAL.out i (by omega)))
      go_wp2_with fail
      go_ret
      exact ⟨HRB.out _ HA.out,HBR.out⟩
  ·have HE := hide (cacheOk_len (c := ⟨rm,ys,⟨z,qs,ps,op,st⟩⟩) (by show ¬ (ys.length : Int) <= rm; rw [hl]; exact hle))
   have g1 : decide ((ni : Int) > rm) = true := by simp; omega
   go_wp2_with fail
   go_ret
   exact ⟨ret_bool HE.out.symm,HBA.out⟩
end Go.Proofs.YtgjoepdfhadmcaaGreatDoor
end

