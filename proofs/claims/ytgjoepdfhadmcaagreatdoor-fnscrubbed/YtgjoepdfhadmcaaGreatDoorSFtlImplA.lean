/- Several texts in one: FtlImplA, FtlImplB, FtlImplC, RotImpl, SameI. -/
import Derived.Test.YtgjoepdfhadmcaaGreatDoorSFtlMath
import Derived.Test.YtgjoepdfhadmcaaGreatDoorSChipOwn2
import Derived.Test.YtgjoepdfhadmcaaGreatDoorSLyImplD
import Derived.Test.YtgjoepdfhadmcaaGreatDoorSChipAns
import Derived.Deep.RegionHeld3
import Derived.Deep.DeepCutAuto
import Derived.BigQuiet
import Derived.Test.YtgjoepdfhadmcaaGreatDoorSFtlOwnP
import Derived.Test.YtgjoepdfhadmcaaGreatDoorSChipImplB
import Derived.Test.YtgjoepdfhadmcaaGreatDoorSChipGrow
section
namespace Go.Proofs.YtgjoepdfhadmcaaGreatDoor
open Go.RowKit
set_option linter.unusedVariables false
set_option maxRecDepth 20000
def mayOp (qs : List Sq) (op : Int) : Bool := (op == -1) || (inB op 0 ((qs.length : Int) - 1) && !(sqAt qs op.toNat).2.2)
theorem mayOp_is (qs : List Sq) (op : Int) : mayOp qs op = (inB op (-1) ((qs.length : Int) - 1) && opOk qs op) := by
 unfold mayOp opOk inB
 by_cases e : op = -1
 ·subst e
  simp
  omega
 ·by_cases h0 : 0 <= op
  ·have h1 : decide (-1 <= op) = true := by simp; omega
   have h2 : decide (op >= 0) = true := by simpa using h0
   have h3 : decide (0 <= op) = true := by simpa using h0
   rw [h1,h2,show (op == -1) = false by simpa using e]
   simp
  ·have h1 : decide (-1 <= op) = false := by simp; omega
   have h3 : decide (0 <= op) = false := by simpa using h0
   rw [h1,h3,show (op == -1) = false by simpa using e]
   simp
set_option maxHeartbeats 1600000 in
theorem mayBeOpen_any (z : Int) (a : Option Addr) (n cap : Nat) (qs : List Sq) (op : Int) (w : World) {lo hi : Nat} (h : Squares lo hi w a n qs) (hhi : hi <= w.heap.size) (hn : n <= 1048576) :
  Calls Tryz.prog 87 #[.agg #[.int .i64 z,.slice a n cap],.int .i64 op] w fun e w' => e = .returned (.bool (mayOp qs op)) ∧ Below w.heap.size w w' := by
 obtain ⟨wA,hwA⟩ : ∃ wA,wA = w.alloc (.cells #[.int .i64 z,.slice a n cap] 26) := ⟨_,rfl⟩
 have hzA : wA.heap.size = w.heap.size + 1 := by rw [hwA]; simp
 have HBA : Hid (Below w.heap.size w wA) := by rw [hwA]; exact (Below.refl _ _).alloc (Nat.le_refl _) _
 have H0 : Hid (wA.heap[w.heap.size]? = some (.cells #[.int .i64 z,.slice a n cap] 26)) := by rw [hwA]; exact heap_new _ _
 have HS := hide (h.later HBA.out hhi)
 have HL := hide h.1
 clear h
 obtain ⟨c0,c1⟩ := two_cells H0.out
 by_cases e1 : op = -1
 ·subst e1
  go_enter Tryz.func87,Tryz.ntmps87
  go_wp2_with fail
  rw [<- hwA]
  go_ret
  exact ⟨rfl,HBA.out⟩
 ·have g1 : (op == -1) = false := by simpa using e1
  have HM : Hid (mayOp qs op = (inB op 0 ((n : Int) - 1) && !(sqAt qs op.toNat).2.2)) := by show _ = _; unfold mayOp; rw [g1,HL.out]; rfl
  go_enter Tryz.func87,Tryz.ntmps87
  go_wp2_with fail
  rw [<- hwA]
  clear hwA
  refine (hasSquare_any z a n cap op wA).mono ?_
  rintro e w1 ⟨rfl,b1⟩
  have K0 := hide (block_on H0.out b1)
  have HS1 := hide (HS.out.later b1 (by omega))
  have HB1 := hide (below_here HBA.out b1)
  have hs1 := b1.size
  clear b1 c0 c1
  obtain ⟨c0,c1⟩ := two_cells K0.out
  cases hin : inB op 0 ((n : Int) - 1) with
  | false =>
   go_wp2_with fail
   go_ret
   exact ⟨ret_bool (by rw [HM.out,hin]; rfl),HB1.out⟩
  | true =>
   have hin2 := hin
   unfold inB at hin2
   simp only [Bool.and_eq_true,decide_eq_true_eq] at hin2
   obtain ⟨i,rfl⟩ : ∃ i : Nat,op = (i : Int) := ⟨op.toNat,by omega⟩
   have hlt : i < n := by omega
   have hlt2 : (i : Int) < (n : Int) := by omega
   obtain ⟨_,A,C,hx,ht⟩ := HS1.out
   obtain ⟨b,off,rfl,_,hb,hc⟩ := hx.2 (by omega)
   obtain ⟨y0,y1,y2⟩ := sq_cells hc (Below.refl w1.heap.size w1) (show b < w1.heap.size by have := hx.1; omega) hlt
   rw [hin,Bool.true_and,Int.toNat_natCast] at HM
   generalize (sqAt qs i).2.2 = bd at *
   clear hc hx ht hin
   go_wp2_with fail
   go_ret
   exact ⟨ret_bool (by rw [HM.out]),HB1.out⟩
set_option maxHeartbeats 800000 in
theorem hasNumber_any (v0 v1 : Value) (am : Option Addr) (m cm : Nat) (v3 v4 : Value) (at_ : Int) (w : World) (hm : m <= maxLen) :
  Calls Tryz.prog 84 #[.agg #[v0,v1,.slice am m cm,v3,v4],.int .i64 at_] w fun e w' => e = .returned (.bool (inB at_ 0 ((m : Int) - 1))) ∧ Below w.heap.size w w' := by
 obtain ⟨wA,hwA⟩ : ∃ wA,wA = w.alloc (.cells #[v0,v1,.slice am m cm,v3,v4] 29) := ⟨_,rfl⟩
 have HBA : Hid (Below w.heap.size w wA) := by rw [hwA]; exact (Below.refl _ _).alloc (Nat.le_refl _) _
 have H0 : Hid (wA.heap[w.heap.size]? = some (.cells #[v0,v1,.slice am m cm,v3,v4] 29)) := by rw [hwA]; exact heap_new _ _
 obtain ⟨c0,c1,c2,c3,c4⟩ := five_cells H0.out
 by_cases h0 : 0 <= at_
 ·have g0 : decide (at_ >= 0) = true := by simpa using h0
  have HE : Hid (inB at_ 0 ((m : Int) - 1) = decide (at_ < (m : Int))) := by
   show _ = _
   unfold inB
   rw [decide_eq_true h0,Bool.true_and]
   by_cases h1 : at_ < (m : Int)
   ·rw [decide_eq_true h1,decide_eq_true (by omega)]
   ·rw [decide_eq_false h1,decide_eq_false (by omega)]
  go_enter Tryz.func84,Tryz.ntmps84
  go_wp2_with fail
  rw [<- hwA]
  go_ret
  exact ⟨ret_bool HE.out.symm,HBA.out⟩
 ·have g0 : decide (at_ >= 0) = false := by simpa using h0
  have HE : Hid (inB at_ 0 ((m : Int) - 1) = false) := by show _ = _; unfold inB; rw [decide_eq_false h0]; rfl
  go_enter Tryz.func84,Tryz.ntmps84
  go_wp2_with fail
  rw [<- hwA]
  go_ret
  exact ⟨ret_bool HE.out.symm,HBA.out⟩
def pgV4 (r : Int × Int × Int × ByteArray × Int) : Value := .agg #[.int .i64 r.1,.int .i64 r.2.1,.int .i64 r.2.2.1,.string r.2.2.2.1]
set_option maxHeartbeats 3200000 in
theorem pageLying_any (z : Int) (a : Option Addr) (n cap : Nat) (qs : List Sq) (s k : Nat) (w : World) {lo hi : Nat} (h : Squares lo hi w a n qs) (hhi : hi <= w.heap.size) (hs : s < n) (hk : k < (sqAt qs s).1.length) (hl8 : (sqAt qs s).1.length <= 8) (hn : n <= 1048576) (hz : (txAt qs s k).size <= 1048576) (hT : Tab w) {aB aL aS aC aF : Addr} (E : Errs w aB aL aS aC aF) :
  Calls Tryz.prog 89 #[.agg #[.int .i64 z,.slice a n cap],.agg #[.int .i64 (s : Int),.int .i64 (k : Int)]] w fun e w' => e = .returned (.tuple #[pgV4 (lyP (txAt qs s k)),.bool (lyWell (lyP (txAt qs s k)).2.2.2.2)]) ∧ Below w.heap.size w w' := by
 obtain ⟨wA,hwA⟩ : ∃ wA,wA = ((w.alloc (.cells #[.int .i64 z,.slice a n cap] 26)).alloc (.cells #[.int .i64 (s : Int),.int .i64 (k : Int)] 39)).alloc (.cells #[.int .i64 0,.int .i64 0,.int .i64 0,.string ⟨#[]⟩] 31) := ⟨_,rfl⟩
 have hzA : wA.heap.size = w.heap.size + 1 + 1 + 1 := by rw [hwA]; simp
 have HBA : Hid (Below w.heap.size w wA) := by rw [hwA]; exact ((((Below.refl _ _).alloc (Nat.le_refl _) _).alloc (by simp) _).alloc (by simp; omega) _)
 have H0 : Hid (wA.heap[w.heap.size]? = some (.cells #[.int .i64 z,.slice a n cap] 26)) := by rw [hwA]; exact heap_old (heap_old (heap_new _ _))
 have H1 : Hid (wA.heap[w.heap.size + 1]? = some (.cells #[.int .i64 (s : Int),.int .i64 (k : Int)] 39)) := by rw [hwA]; exact heap_old (heap_at (by simp))
 have H2 : Hid (wA.heap[w.heap.size + 1 + 1]? = some (.cells #[.int .i64 0,.int .i64 0,.int .i64 0,.string ⟨#[]⟩] 31)) := by rw [hwA]; exact heap_at (by simp)
 have HTA := hide (hT.here HBA.out)
 have HEA := hide (E.here HBA.out)
 obtain ⟨_,A,C,hx,ht⟩ := h.later HBA.out hhi
 obtain ⟨b,off,rfl,_,hb,hc⟩ := hx.2 (by omega)
 have hbA : b < wA.heap.size := by have := hx.1; omega
 obtain ⟨y0,_,_⟩ := sq_cells hc (Below.refl wA.heap.size wA) hbA hs
 obtain ⟨_,_,hpx⟩ := ht s hs
 obtain ⟨pb,po,hAs,_,hpb,hpc⟩ := hpx (by omega)
 have ytx := hpc k hk
 have hpA : pb < wA.heap.size := by have := hx.1; omega
 rw [hAs] at y0
 have etx : cellT (sqAt qs s).1 k = .string (txAt qs s k) := rfl
 rw [etx] at ytx
 obtain ⟨tx,htx⟩ : ∃ tx,tx = txAt qs s k := ⟨_,rfl⟩
 rw [<- htx] at ytx hz
 rw [<- htx]
 have hs2 : (s : Int) < (n : Int) := by omega
 obtain ⟨L,hL⟩ : ∃ L,L = (sqAt qs s).1.length := ⟨_,rfl⟩
 rw [<- hL] at y0 hk hl8
 have hk2 : (k : Int) < (L : Int) := by omega
 obtain ⟨r,hr⟩ : ∃ r,r = lyP tx := ⟨_,rfl⟩
 have HCL : ∀ w',Hid (Below wA.heap.size wA w' -> Calls Tryz.prog 102 #[.string tx] w' fun e w'' => e = .returned (lyV r) ∧ Below w'.heap.size w' w'') := fun w' hb' => by
  rw [hr]
  exact implLying_any tx w' (HTA.out.here hb') (HEA.out.here hb') hz
 rw [<- hr]
 clear h hc hx ht hpx hpc hT E htx hL hr etx hAs
 obtain ⟨r0,r1,r2,r3,r4⟩ := r
 unfold lyV at HCL
 unfold pgV4
 dsimp only at HCL ⊢
 obtain ⟨c0,c1⟩ := two_cells H0.out
 obtain ⟨d0,d1⟩ := two_cells H1.out
 have HK : ∀ w',Hid (Below wA.heap.size wA w' -> w'.cell? ⟨w.heap.size,1,none⟩ = some (.slice (some ⟨b,off,none⟩) n cap) ∧ w'.cell? ⟨w.heap.size + 1,0,none⟩ = some (.int .i64 (s : Int)) ∧ w'.cell? ⟨w.heap.size + 1,1,none⟩ = some (.int .i64 (k : Int)) ∧ w'.cell? ⟨b,off + s * 3,none⟩ = some (.slice (some ⟨pb,po,none⟩) L (C s)) ∧ w'.cell? ⟨pb,po + k,none⟩ = some (.string tx)) := fun w' hb' => ⟨(hb'.cell (p := ⟨_,_,none⟩) (by show w.heap.size < _; omega)).trans c1,(hb'.cell (p := ⟨_,_,none⟩) (by show w.heap.size + 1 < _; omega)).trans d0,(hb'.cell (p := ⟨_,_,none⟩) (by show w.heap.size + 1 < _; omega)).trans d1,(hb'.cell (p := ⟨_,_,none⟩) hbA).trans y0,(hb'.cell (p := ⟨_,_,none⟩) hpA).trans ytx⟩
 go_enter Tryz.func89,Tryz.ntmps89
 go_upto_region 1 with fail
 rw [<- hwA]
 clear hwA
 have HZA := hide hzA
 clear hzA
 go_cut [6,7] (fun v q wx => ∃ g,v = .pointer (some ⟨g,0,none⟩) ∧ q = .int .i64 r4 ∧ wA.heap.size <= g ∧ wx.heap[g]? = some (.cells #[.int .i64 r0,.int .i64 r1,.int .i64 r2,.string r3] 31) ∧ Below wA.heap.size wA wx)
 case first =>
  have HB0 : Hid (Below wA.heap.size wA wA.drew) := (Below.refl wA.heap.size wA).drew
  have HBa : Hid (Below wA.heap.size wA (wA.alloc (.cells #[.int .i64 0,.int .i64 0,.int .i64 0,.string ⟨#[]⟩] 31)).drew) := ((Below.refl wA.heap.size wA).alloc (Nat.le_refl _) _).drew
  have HEa : Hid ((wA.alloc (.cells #[.int .i64 0,.int .i64 0,.int .i64 0,.string ⟨#[]⟩] 31)).drew.heap[wA.heap.size]? = some (.cells #[.int .i64 0,.int .i64 0,.int .i64 0,.string ⟨#[]⟩] 31)) := heap_new wA _
  go_region_held3 (fun w' => w'.cell? ⟨w.heap.size,1,none⟩ = some (.slice (some ⟨b,off,none⟩) n cap) ∧ w'.cell? ⟨w.heap.size + 1,0,none⟩ = some (.int .i64 (s : Int)) ∧ w'.cell? ⟨w.heap.size + 1,1,none⟩ = some (.int .i64 (k : Int)) ∧ w'.cell? ⟨b,off + s * 3,none⟩ = some (.slice (some ⟨pb,po,none⟩) L (C s)) ∧ w'.cell? ⟨pb,po + k,none⟩ = some (.string tx))
   (first | exact (HK _).out HB0.out | exact (HK _).out HBa.out | exact (HK _).out HB5.out | exact (HK _).out HBS.out | exact (HK _).out HB6.out | exact ⟨c1,d0,d1,y0,ytx⟩ | fail)
   (first
    | (go_at_call 102; refine ((HCL _).out HB0.out).mono ?_; rintro e w5 ⟨rfl,b5⟩; have HB5 := hide (below_here HB0.out b5); have hs5 := b5.size; have HB6 := hide (HB5.out.alloc HB5.out.size (.cells #[.int .i64 0,.int .i64 0,.int .i64 0,.string ⟨#[]⟩] 31)); have HBS := hide (HB5.out.alloc HB5.out.size (.cells #[.int .i64 r0,.int .i64 r1,.int .i64 r2,.string r3] 31)); have HRS := hide (heap_new w5 (.cells #[.int .i64 r0,.int .i64 r1,.int .i64 r2,.string r3] 31)))
    | (go_at_call 102; refine ((HCL _).out HBa.out).mono ?_; rintro e w5 ⟨rfl,b5⟩; have HB5 := hide (below_here HBa.out b5); have hs5 := b5.size; have E5 := hide (block_on HEa.out b5); obtain ⟨e0,e1,e2,e3⟩ := four_cells E5.out; have f0 := four_frozen E5.out 0; have f1 := four_frozen E5.out 1; have f2 := four_frozen E5.out 2; have f3 := four_frozen E5.out 3; have HRS := hide (four_set E5.out (.int .i64 r0) (.int .i64 r1) (.int .i64 r2) (.string r3)); have HBS := hide (four_below (b := wA.heap.size) HB5.out (Nat.le_refl _) (.int .i64 r0) (.int .i64 r1) (.int .i64 r2) (.string r3))))
  all_goals
   have HG5 := hide HB5.out.size
   clear HB0 HBa HEa HK HCL c0 c1 d0 d1 y0 ytx b5 HB5 hs5
   go_wp2_with fail
   go_meet
   exact ⟨_,rfl,rfl,by first | exact HG5.out | exact Nat.le_refl _,HRS.out,HBS.out⟩
 case rest =>
  obtain ⟨g,rfl,rfl,hgl,hrs,hb5⟩ := hcut
  obtain ⟨w5,hw5⟩ : ∃ w5,w5 = wc := ⟨_,rfl⟩
  subst hw5
  have HB5 := hide (below_here HBA.out hb5)
  have K2 := hide (block_on H2.out hb5)
  have hzA := HZA.out
  have hs5 := hb5.size
  clear hb5 HK HCL c0 c1 d0 d1 y0 ytx
  obtain ⟨e0,e1,e2,e3⟩ := four_cells hrs
  obtain ⟨p0,p1,p2,p3⟩ := four_cells K2.out
  have f0 := four_frozen K2.out 0
  have f1 := four_frozen K2.out 1
  have f2 := four_frozen K2.out 2
  have f3 := four_frozen K2.out 3
  have HRS := hide (four_set K2.out (.int .i64 r0) (.int .i64 r1) (.int .i64 r2) (.string r3))
  have HBS := hide (four_below (b := w.heap.size + 1 + 1) HB5.out (by omega) (.int .i64 r0) (.int .i64 r1) (.int .i64 r2) (.string r3))
  have HLW : Hid (lyWell r4 = ((r4 == 1) || (r4 == 2))) := rfl
  by_cases h1 : r4 = 1
  ·subst h1
   go_wp2_with fail
   refine bodyPost_ret (results_ct rfl rfl (run_loadVar_row _ _ _ _ _ _ _ HRS.out Tryz.underlying31 rfl (by kernel_rfl))) rfl ⟨rfl,HBS.out⟩
  ·have g1 : (r4 == 1) = false := by simpa using h1
   rw [g1] at HLW
   go_wp2_with fail
   refine bodyPost_ret (results_ct rfl rfl (run_loadVar_row _ _ _ _ _ _ _ HRS.out Tryz.underlying31 rfl (by kernel_rfl))) rfl ⟨by rw [HLW.out]; rfl,HBS.out⟩
theorem pgOf_there {z : Int} {qs : List Sq} {s k : Nat} (hok : chipOk z qs = true) (hs : s < qs.length) (hk : k < (sqAt qs s).1.length) : pgOf z qs ((s : Int),(k : Int)) = lyP (txAt qs s k) := by
 unfold pgOf
 congr 1
 unfold pageAt txAt inB
 rw [hok]
 simp only [Int.toNat_natCast]
 rw [if_pos]
 simp only [Bool.true_and,Bool.and_eq_true,decide_eq_true_eq]
 omega
end Go.Proofs.YtgjoepdfhadmcaaGreatDoor
end

section
namespace Go.Proofs.YtgjoepdfhadmcaaGreatDoor
open Go.RowKit
set_option linter.unusedVariables false
set_option maxRecDepth 20000
theorem ftlOk_is (z : Int) (qs : List Sq) (ps : List Pl) (op st : Int) : ftlOk z qs ps op st = (mapOk z qs ps && (mayOp qs op && (!decide (st < 0) && (!decide (st > 1000000) && (List.range ps.length).all (fpOk z qs ps st))))) := by
 unfold ftlOk
 rw [mayOp_is]
 have e : inB st 0 1000000 = (!decide (st < 0) && !decide (st > 1000000)) := by
  unfold inB
  rw [Bool.eq_iff_iff]
  simp
 rw [e]
 cases mapOk z qs ps <;> cases inB op (-1) ((qs.length : Int) - 1) <;> cases opOk qs op <;> cases decide (st < 0) <;> cases decide (st > 1000000) <;> simp
set_option maxHeartbeats 6400000 in
theorem implFtlOk_any (z : Int) (a : Option Addr) (n cap : Nat) (qs : List Sq) (am : Option Addr) (m cm : Nat) (ps : List Pl) (op st : Int) (w : World) {lo hi lo' hi' : Nat} (h : Squares lo hi w a n qs) (hhi : hi <= w.heap.size) (hn : n <= 1048576) (hf : ∀ x ∈ qs,sqFits x) (hp : Places lo' hi' w am m ps) (hhi' : hi' <= w.heap.size) (hm : m <= 1048576) (hcl : m <= cm) (hT : Tab w) {aB aL aS aC aF : Addr} (E : Errs w aB aL aS aC aF) :
  Calls Tryz.prog 19 #[.agg #[.int .i64 z,.slice a n cap,.slice am m cm,.int .i64 op,.int .i64 st]] w fun e w' => e = .returned (.bool (ftlOk z qs ps op st)) ∧ Below w.heap.size w w' := by
 obtain ⟨wA,hwA⟩ : ∃ wA,wA = w.alloc (.cells #[.int .i64 z,.slice a n cap,.slice am m cm,.int .i64 op,.int .i64 st] 29) := ⟨_,rfl⟩
 have hzA : wA.heap.size = w.heap.size + 1 := by rw [hwA]; simp
 have HBA : Hid (Below w.heap.size w wA) := by rw [hwA]; exact (Below.refl _ _).alloc (Nat.le_refl _) _
 have H1 : Hid (wA.heap[w.heap.size]? = some (.cells #[.int .i64 z,.slice a n cap,.slice am m cm,.int .i64 op,.int .i64 st] 29)) := by rw [hwA]; exact heap_new _ _
 have HSQ := hide (h.later HBA.out hhi)
 have HPL := hide (hp.later HBA.out hhi')
 have HL := hide h.1
 have HLP := hide hp.1
 have HF := hide hf
 have HTA := hide (hT.here HBA.out)
 have HEA := hide (E.here HBA.out)
 have HFT := hide (ftlOk_is z qs ps op st)
 clear h hf hp hT E
 obtain ⟨c0,c1,c2,c3,c4⟩ := five_cells H1.out
 go_enter Tryz.func19,Tryz.ntmps19
 go_wp2_with fail
 rw [<- hwA]
 clear hwA
 refine (implMapOk_any z a n cap qs am m cm ps wA HSQ.out (by omega) hn HF.out HPL.out (by omega) hm hcl).mono ?_
 rintro e w1 ⟨rfl,b1⟩
 have K1 := hide (block_on H1.out b1)
 have HS1 := hide (HSQ.out.later b1 (by omega))
 have HP1 := hide (HPL.out.later b1 (by omega))
 have HB1 := hide (below_here HBA.out b1)
 have HT1 := hide (HTA.out.here b1)
 have HE1 := hide (HEA.out.here b1)
 have hs1 := b1.size
 clear b1 H1 HSQ HPL HBA HTA HEA c0 c1 c2 c3 c4
 obtain ⟨c0,c1,c2,c3,c4⟩ := five_cells K1.out
 cases hok : mapOk z qs ps with
 | false =>
  have HE : Hid (ftlOk z qs ps op st = false) := by show _ = _; rw [HFT.out,hok]; rfl
  go_wp2_with fail
  go_ret
  exact ⟨ret_bool HE.out.symm,HB1.out⟩
 | true =>
  have HCK := hide (mapOk_chip hok)
  have HMR := hide (mapR_of hok)
  have hn12 : n <= 12 := by have := (chipOk_parts (mapOk_chip hok)).2.2.2.1; rw [HL.out] at this; exact this
  have hm64 : m <= 64 := by have := (mapOk_len hok).2; rw [HLP.out] at this; exact this
  rw [hok,Bool.true_and] at HFT
  clear hok
  go_wp2_with fail
  refine (mayBeOpen_any z a n cap qs op w1 HS1.out (by omega) hn).mono ?_
  rintro e w2 ⟨rfl,b2⟩
  have K2 := hide (block_on K1.out b2)
  have HS2 := hide (HS1.out.later b2 (by omega))
  have HP2 := hide (HP1.out.later b2 (by omega))
  have HB2 := hide (below_here HB1.out b2)
  have HT2 := hide (HT1.out.here b2)
  have HE2 := hide (HE1.out.here b2)
  have hs2 := b2.size
  clear b2 K1 HS1 HP1 HB1 HT1 HE1 c0 c1 c2 c3 c4
  obtain ⟨c0,c1,c2,c3,c4⟩ := five_cells K2.out
  cases hmo : mayOp qs op with
  | false =>
   have HE : Hid (ftlOk z qs ps op st = false) := by show _ = _; rw [HFT.out,hmo]; rfl
   go_wp2_with fail
   go_ret
   exact ⟨ret_bool HE.out.symm,HB2.out⟩
  | true =>
   rw [hmo,Bool.true_and] at HFT
   clear hmo
   by_cases hs0 : st < 0
   ·have g0 : decide (st < 0) = true := by simpa using hs0
    have HE : Hid (ftlOk z qs ps op st = false) := by show _ = _; rw [HFT.out,g0]; rfl
    go_wp2_with fail
    go_ret
    exact ⟨ret_bool HE.out.symm,HB2.out⟩
   ·have g0 : decide (st < 0) = false := by simpa using hs0
    rw [g0,Bool.not_false,Bool.true_and] at HFT
    by_cases hs1' : st > 1000000
    ·have g1 : decide (st > 1000000) = true := by simpa using hs1'
     have HE : Hid (ftlOk z qs ps op st = false) := by show _ = _; rw [HFT.out,g1]; rfl
     go_wp2_with fail
     go_ret
     exact ⟨ret_bool HE.out.symm,HB2.out⟩
    ·have g1 : decide (st > 1000000) = false := by simpa using hs1'
     rw [g1,Bool.not_false,Bool.true_and] at HFT
     go_wp2_with fail
     go_loopw [34] (fun i wr => ∃ k : Nat,k <= m ∧ i = .int .i64 (k : Int) ∧ (List.range k).all (fpOk z qs ps st) = true ∧ Below w2.heap.size w2 wr) (fun i _ => m - (intOf i).toNat)
     case atStart => exact ⟨0,Nat.zero_le _,rfl,rfl,Below.refl _ _⟩
     case round =>
      obtain ⟨k,hk,rfl,hall,hbel⟩ := hrel
      have HAL := hide hall
      have HBB := hide hbel
      have hszr := hbel.size
      clear hall c0 c1 c2 c3 c4
      have KR := hide (block_on K2.out hbel)
      obtain ⟨a0,a1,a2,a3,a4⟩ := five_cells KR.out
      by_cases hlt : k < m
      ·have hpl : k < ps.length := by rw [HLP.out]; exact hlt
       have hlt2 : (k : Int) < (m : Int) := by omega
       have HTH := hide (HMR.out.there k hpl)
       obtain ⟨b,off,rfl,_,hb,hc⟩ := HP2.out.2.2 (by omega)
       have hbs : b < w2.heap.size := by have := HP2.out.2.1; omega
       obtain ⟨c0,c1⟩ := pl_cells hc hbel hbs hlt
       have HFA : Hid (fpOk z qs ps st k = false -> ftlOk z qs ps op st = false) := fun hh => ftlOk_fall hpl hh
       have HST : Hid (fpOk z qs ps st k = true -> (List.range (k + 1)).all (fpOk z qs ps st) = true) := fun hh => all_range_step HAL.out hh
       have HPO : Hid (fpOk z qs ps st k = ((((plAt ps k).1 == -1) && ((plAt ps k).2 == 0)) || (lyWell (pgOf z qs (plAt ps k)).2.2.2.2 && (((pgOf z qs (plAt ps k)).2.1 == (k : Int)) && !(decide ((pgOf z qs (plAt ps k)).2.2.1 > st)))))) := by
        show _ = _
        unfold fpOk
        rw [pl_eq]
       clear hc hbel
       obtain ⟨y,hy⟩ : ∃ y,y = plAt ps k := ⟨_,rfl⟩
       rw [<- hy] at c0 c1 HPO HTH
       clear hy
       obtain ⟨p,q⟩ := y
       dsimp only at c0 c1 HPO
       obtain ⟨wV,hwV⟩ : ∃ wV,wV = wr.alloc (.cells #[.int .i64 p,.int .i64 q] 39) := ⟨_,rfl⟩
       have HBV : Hid (Below wr.heap.size wr wV) := by rw [hwV]; exact (Below.refl _ _).alloc (Nat.le_refl _) _
       have HV : Hid (wV.heap[wr.heap.size]? = some (.cells #[.int .i64 p,.int .i64 q] 39)) := by rw [hwV]; exact heap_new _ _
       go_wp2_with fail
       rw [<- hwV]
       clear hwV
       refine (isNone_any p q wV).mono ?_
       rintro e w3 ⟨rfl,b3⟩
       have HB3 := hide (below_here HBV.out b3)
       have KV := hide (block_on HV.out b3)
       clear b3 a0 a1 a2 a3 a4 c0 c1
       cases hnone : ((p == -1) && (q == 0)) with
       | true =>
        have HOK := hide (HST.out (by rw [HPO.out,hnone]; rfl))
        have HBR := hide (below_here HBB.out HB3.out)
        go_wp2_with fail
        go_roundw
        case rel => exact ⟨k + 1,by omega,by go_num,HOK.out,HBR.out⟩
        case measure => simp [intOf]; omega
       | false =>
        obtain ⟨s,j,he,hsl,hjl⟩ : ∃ s j : Nat,(p,q) = ((s : Int),(j : Int)) ∧ s < qs.length ∧ j < (sqAt qs s).1.length := by
         rcases HTH.out with e1 | e1
         ·simp only [Prod.mk.injEq] at e1
          rw [e1.1,e1.2] at hnone
          simp at hnone
         ·exact plThere_iff.1 e1
        simp only [Prod.mk.injEq] at he
        obtain ⟨rfl,rfl⟩ := he
        have HPG := hide (pgOf_there HCK.out hsl hjl)
        have hsq := sqOk_parts (chipOk_at HCK.out hsl)
        have hl8 : (sqAt qs s).1.length <= 8 := by have := hsq.1; have := (chipOk_parts HCK.out).2.1; omega
        have htz : (txAt qs s j).size <= 1048576 := by
         have := (hsq.2.2.2 (txAt qs s j) (by unfold txAt; rw [List.getD_eq_getElem?_getD,List.getElem?_eq_getElem hjl]; exact List.getElem_mem _)).2
         omega
        have HBR := hide (below_here HBB.out HB3.out)
        have KR3 := hide (block_on KR.out HB3.out)
        have hs3 := HBR.out.size
        obtain ⟨a0,a1,a2,a3,a4⟩ := five_cells KR3.out
        obtain ⟨v0,v1⟩ := two_cells KV.out
        go_wp2_with fail
        refine (pageLying_any z a n cap qs s j w3 (HS2.out.later HBR.out (by omega)) (by omega) (by rw [<- HL.out]; exact hsl) hjl hl8 hn htz (HT2.out.here HBR.out) (HE2.out.here HBR.out)).mono ?_
        rintro e w4 ⟨rfl,b4⟩
        have HPO2 : Hid (fpOk z qs ps st k = (lyWell (lyP (txAt qs s j)).2.2.2.2 && (((lyP (txAt qs s j)).2.1 == (k : Int)) && !(decide ((lyP (txAt qs s j)).2.2.1 > st))))) := by show _ = _; rw [HPO.out,hnone,HPG.out]; rfl
        obtain ⟨r,hr⟩ : ∃ r,r = lyP (txAt qs s j) := ⟨_,rfl⟩
        rw [<- hr] at HPO2
        rw [<- hr]
        clear hr hnone HPO HPG
        obtain ⟨r0,r1,r2,r3,r4⟩ := r
        unfold pgV4
        dsimp only at HPO2 ⊢
        have HB4 := hide (below_here HBR.out b4)
        have KR4 := hide (block_on KR3.out b4)
        clear b4 a0 a1 a2 a3 a4 v0 v1
        obtain ⟨wP,hwP⟩ : ∃ wP,wP = w4.alloc (.cells #[.int .i64 r0,.int .i64 r1,.int .i64 r2,.string r3] 31) := ⟨_,rfl⟩
        have HBP : Hid (Below w4.heap.size w4 wP) := by rw [hwP]; exact (Below.refl _ _).alloc (Nat.le_refl _) _
        have HP : Hid (wP.heap[w4.heap.size]? = some (.cells #[.int .i64 r0,.int .i64 r1,.int .i64 r2,.string r3] 31)) := by rw [hwP]; exact heap_new _ _
        have KRP := hide (block_on KR4.out HBP.out)
        have HB5 := hide (below_here HB4.out HBP.out)
        have HB6 := hide (below_here HB2.out HB5.out)
        obtain ⟨a0,a1,a2,a3,a4⟩ := five_cells KRP.out
        obtain ⟨e0,e1,e2,e3⟩ := four_cells HP.out
        cases hw : lyWell r4 with
        | false =>
         have HE := hide (HFA.out (by rw [HPO2.out,hw]; rfl))
         go_wp2_with fail
         rw [<- hwP]
         go_ret
         exact ⟨ret_bool HE.out.symm,HB6.out⟩
        | true =>
         rw [hw,Bool.true_and] at HPO2
         clear hw
         go_upto_region 8 with fail
         rw [<- hwP]
         clear hwP
         have HPO3 : Hid ((!(fpOk z qs ps st k)) = !((r1 == (k : Int)) && !(decide (r2 > st)))) := by show _ = _; rw [HPO2.out]
         go_cut [62] from 35 to 63 (fun d wx => d = .bool (!(fpOk z qs ps st k)) ∧ Below wP.heap.size wP wx)
         case first =>
          by_cases h1 : r1 = (k : Int)
          ·subst h1
           rw [show ((k : Int) == (k : Int)) = true by simp,Bool.true_and,Bool.not_not] at HPO3
           go_wp2_with fail
           go_meet
           exact ⟨by rw [HPO3.out],Below.refl _ _⟩
          ·rw [show (r1 == (k : Int)) = false by simpa using h1,Bool.false_and,Bool.not_false] at HPO3
           go_wp2_with fail
           go_meet
           exact ⟨by rw [HPO3.out],Below.refl _ _⟩
         case rest =>
          obtain ⟨rfl,hbc⟩ := hcut
          have HB7 := hide (below_here HB5.out hbc)
          have HB8 := hide (below_here HB6.out hbc)
          clear hbc
          cases hfp : fpOk z qs ps st k with
          | true =>
           have HOK := hide (HST.out hfp)
           simp only [Bool.not_true]
           go_wp2_with fail
           go_roundw
           case rel => exact ⟨k + 1,by omega,by go_num,HOK.out,HB7.out⟩
           case measure => simp [intOf]; omega
          | false =>
           have HE := hide (HFA.out hfp)
           simp only [Bool.not_false]
           go_wp2_with fail
           go_ret
           exact ⟨ret_bool HE.out.symm,HB8.out⟩
      ·obtain rfl : k = m := by omega
       have HE : Hid (ftlOk z qs ps op st = true) := by show _ = _; rw [HFT.out,HLP.out]; exact HAL.out
       have HBR := hide (below_here HB2.out HBB.out)
       clear hbel
       go_wp2_with fail
       go_ret
       exact ⟨ret_bool HE.out.symm,HBR.out⟩
end Go.Proofs.YtgjoepdfhadmcaaGreatDoor
end

section
namespace Go.Proofs.YtgjoepdfhadmcaaGreatDoor
open Go.RowKit
set_option linter.unusedVariables false
set_option maxRecDepth 20000
set_option maxHeartbeats 6400000 in
theorem entryOf_any (z : Int) (a : Option Addr) (n cap : Nat) (qs : List Sq) (am : Option Addr) (m cm : Nat) (ps : List Pl) (op st : Int) (k : Nat) (w : World) {lo hi lo' hi' : Nat} (h : Squares lo hi w a n qs) (hhi : hi <= w.heap.size) (hn : n <= 1048576) (hp : Places lo' hi' w am m ps) (hhi' : hi' <= w.heap.size) (hT : Tab w) {aB aL aS aC aF : Addr} (E : Errs w aB aL aS aC aF) (hok : ftlOk z qs ps op st = true) (hlt : k < m) :
  Calls Tryz.prog 85 #[.agg #[.int .i64 z,.slice a n cap,.slice am m cm,.int .i64 op,.int .i64 st],.int .i64 (k : Int)] w fun e w' => e = .returned (.tuple #[.string (ftlGet z qs ps op st (k : Int)).1,.bool (ftlGet z qs ps op st (k : Int)).2]) ∧ Below w.heap.size w w' := by
 obtain ⟨gg,hgg⟩ : ∃ g,g = ftlGet z qs ps op st (k : Int) := ⟨_,rfl⟩
 have HG := hide hgg
 rw [<- hgg]
 clear hgg
 obtain ⟨w2,hwA⟩ : ∃ wA,wA = w.alloc (.cells #[.int .i64 z,.slice a n cap,.slice am m cm,.int .i64 op,.int .i64 st] 29) := ⟨_,rfl⟩
 have hs2 : w2.heap.size = w.heap.size + 1 := by rw [hwA]; simp
 have HB2 : Hid (Below w.heap.size w w2) := by rw [hwA]; exact (Below.refl _ _).alloc (Nat.le_refl _) _
 have K2 : Hid (w2.heap[w.heap.size]? = some (.cells #[.int .i64 z,.slice a n cap,.slice am m cm,.int .i64 op,.int .i64 st] 29)) := by rw [hwA]; exact heap_new _ _
 have HS2 := hide (h.later HB2.out hhi)
 have HP2 := hide (hp.later HB2.out hhi')
 have HL := hide h.1
 have HLP := hide hp.1
 have HT2 := hide (hT.here HB2.out)
 have HE2 := hide (E.here HB2.out)
 clear h hp hT E
 have HCK := hide (mapOk_chip (ftlOk_map hok))
 have HMR := hide (mapR_of (ftlOk_map hok))
 have hm64 : m <= 64 := by have := (mapOk_len (ftlOk_map hok)).2; rw [HLP.out] at this; exact this
 have hin : inB (k : Int) 0 ((m : Int) - 1) = true := by unfold inB; simp; omega
 have hlt2 : (k : Int) < (m : Int) := by omega
 have hpl : k < ps.length := by rw [HLP.out]; exact hlt
 obtain ⟨c0,c1,c2,c3,c4⟩ := five_cells K2.out
 have HTH := hide (HMR.out.there k hpl)
 obtain ⟨b,off,rfl,_,hb,hc⟩ := HP2.out.2.2 (by omega)
 have hbs : b < w2.heap.size := by have := HP2.out.2.1; omega
 obtain ⟨d0,d1⟩ := pl_cells hc (Below.refl w2.heap.size w2) hbs hlt
 have HGE : Hid (gg = (if !(((plAt ps k).1 == -1) && ((plAt ps k).2 == 0)) then ((pgOf z qs (plAt ps k)).2.2.2.1,(pgOf z qs (plAt ps k)).1 == 1) else (ByteArray.empty,false))) := by
  show _ = _
  rw [HG.out]
  unfold ftlGet
  rw [hok,HLP.out,hin,Int.toNat_natCast,pl_eq]
  rfl
 clear hc hok hin HG
 obtain ⟨y,hy⟩ : ∃ y,y = plAt ps k := ⟨_,rfl⟩
 rw [<- hy] at d0 d1 HTH HGE
 clear hy
 obtain ⟨p,q⟩ := y
 dsimp only at d0 d1 HGE
 go_enter Tryz.func85,Tryz.ntmps85
 go_upto_region 1 with fail
 rw [<- hwA]
 clear hwA
 go_wp2_with fail
 refine (isNone_any p q w2).mono ?_
 rintro e w3 ⟨rfl,b3⟩
 have K3 := hide (block_on K2.out b3)
 have HS3 := hide (HS2.out.later b3 (by omega))
 have HB3 := hide (below_here HB2.out b3)
 have HT3 := hide (HT2.out.here b3)
 have HE3 := hide (HE2.out.here b3)
 have hs3 := b3.size
 have e0 := (b3.cell (p := ⟨b,off + k * 2,none⟩) hbs).trans d0
 have e1 := (b3.cell (p := ⟨b,off + k * 2 + 1,none⟩) hbs).trans d1
 clear b3 c0 c1 c2 c3 c4 d0 d1
 cases hnone : ((p == -1) && (q == 0)) with
 | true =>
  have HE : Hid (gg = (ByteArray.empty,false)) := by show _ = _; rw [HGE.out,hnone]; rfl
  go_wp2_with fail
  go_ret2
  exact ⟨by rw [HE.out]; rfl,HB3.out⟩
 | false =>
  obtain ⟨s,j,he,hsl,hjl⟩ : ∃ s j : Nat,(p,q) = ((s : Int),(j : Int)) ∧ s < qs.length ∧ j < (sqAt qs s).1.length := by
   rcases HTH.out with e1 | e1
   ·simp only [Prod.mk.injEq] at e1
    rw [e1.1,e1.2] at hnone
    simp at hnone
   ·exact plThere_iff.1 e1
  simp only [Prod.mk.injEq] at he
  obtain ⟨rfl,rfl⟩ := he
  have HPG := hide (pgOf_there HCK.out hsl hjl)
  have hsq := sqOk_parts (chipOk_at HCK.out hsl)
  have hl8 : (sqAt qs s).1.length <= 8 := by have := hsq.1; have := (chipOk_parts HCK.out).2.1; omega
  have htz : (txAt qs s j).size <= 1048576 := by
   have := (hsq.2.2.2 (txAt qs s j) (by unfold txAt; rw [List.getD_eq_getElem?_getD,List.getElem?_eq_getElem hjl]; exact List.getElem_mem _)).2
   omega
  obtain ⟨r,hr⟩ : ∃ r,r = lyP (txAt qs s j) := ⟨_,rfl⟩
  have HCL : ∀ w',Hid (Below w3.heap.size w3 w' -> Calls Tryz.prog 89 #[.agg #[.int .i64 z,.slice a n cap],.agg #[.int .i64 (s : Int),.int .i64 (j : Int)]] w' fun e w'' => e = .returned (.tuple #[pgV4 r,.bool (lyWell r.2.2.2.2)]) ∧ Below w'.heap.size w' w'') := fun w' hb' => by
   rw [hr]
   have hs' := hb'.size
   exact pageLying_any z a n cap qs s j w' (HS3.out.later hb' (by omega)) (by omega) (by rw [<- HL.out]; exact hsl) hjl hl8 hn htz (HT3.out.here hb') (HE3.out.here hb')
  have HGE2 : Hid (gg = (r.2.2.2.1,r.1 == 1)) := by show _ = _; rw [HGE.out,hnone,HPG.out,<- hr]; rfl
  clear hr hnone HPG HGE hsq
  obtain ⟨r0,r1,r2,r3,r4⟩ := r
  unfold pgV4 at HCL
  dsimp only at HCL HGE2
  obtain ⟨lw,hlw⟩ : ∃ lw,lw = lyWell r4 := ⟨_,rfl⟩
  rw [<- hlw] at HCL
  clear hlw
  obtain ⟨a0,a1,a2,a3,a4⟩ := five_cells K3.out
  have hwz : w.heap.size < w3.heap.size := by omega
  have hb3 : b < w3.heap.size := by omega
  have HK : ∀ w',Hid (Below w3.heap.size w3 w' -> w'.cell? ⟨w.heap.size,0,none⟩ = some (.int .i64 z) ∧ w'.cell? ⟨w.heap.size,1,none⟩ = some (.slice a n cap) ∧ w'.cell? ⟨w.heap.size,2,none⟩ = some (.slice (some ⟨b,off,none⟩) m cm) ∧ w'.cell? ⟨b,off + k * 2,none⟩ = some (.int .i64 (s : Int)) ∧ w'.cell? ⟨b,off + k * 2 + 1,none⟩ = some (.int .i64 (j : Int))) := fun w' hb' => ⟨(hb'.cell (p := ⟨_,_,none⟩) hwz).trans a0,(hb'.cell (p := ⟨_,_,none⟩) hwz).trans a1,(hb'.cell (p := ⟨_,_,none⟩) hwz).trans a2,(hb'.cell (p := ⟨_,_,none⟩) hb3).trans e0,(hb'.cell (p := ⟨_,_,none⟩) hb3).trans e1⟩
  go_upto_region 3 with fail
  go_cut [6] (fun v wx => ∃ g,v = .pointer (some ⟨g,0,none⟩) ∧ wx.heap[g]? = some (.cells #[.int .i64 r0,.int .i64 r1,.int .i64 r2,.string r3] 31) ∧ Below w3.heap.size w3 wx)
  case first =>
   have HB0 : Hid (Below w3.heap.size w3 w3.drew) := (Below.refl w3.heap.size w3).drew
   have HBa : Hid (Below w3.heap.size w3 (w3.alloc (.cells #[.int .i64 0,.int .i64 0,.int .i64 0,.string ⟨#[]⟩] 31)).drew) := ((Below.refl w3.heap.size w3).alloc (Nat.le_refl _) _).drew
   have HEa : Hid ((w3.alloc (.cells #[.int .i64 0,.int .i64 0,.int .i64 0,.string ⟨#[]⟩] 31)).drew.heap[w3.heap.size]? = some (.cells #[.int .i64 0,.int .i64 0,.int .i64 0,.string ⟨#[]⟩] 31)) := heap_new w3 _
   go_region_held3 (fun w' => w'.cell? ⟨w.heap.size,0,none⟩ = some (.int .i64 z) ∧ w'.cell? ⟨w.heap.size,1,none⟩ = some (.slice a n cap) ∧ w'.cell? ⟨w.heap.size,2,none⟩ = some (.slice (some ⟨b,off,none⟩) m cm) ∧ w'.cell? ⟨b,off + k * 2,none⟩ = some (.int .i64 (s : Int)) ∧ w'.cell? ⟨b,off + k * 2 + 1,none⟩ = some (.int .i64 (j : Int)))
    (first | exact (HK _).out HB0.out | exact (HK _).out HBa.out | exact (HK _).out HB5.out | exact (HK _).out HBS.out | exact (HK _).out HB6.out | exact ⟨a0,a1,a2,e0,e1⟩ | fail)
    (first
     | (go_at_call 89; refine ((HCL _).out HB0.out).mono ?_; rintro e w5 ⟨rfl,b5⟩; have HB5 := hide (below_here HB0.out b5); have hs5 := b5.size; have HB6 := hide (HB5.out.alloc HB5.out.size (.cells #[.int .i64 0,.int .i64 0,.int .i64 0,.string ⟨#[]⟩] 31)); have HBS := hide (HB5.out.alloc HB5.out.size (.cells #[.int .i64 r0,.int .i64 r1,.int .i64 r2,.string r3] 31)); have HRS := hide (heap_new w5 (.cells #[.int .i64 r0,.int .i64 r1,.int .i64 r2,.string r3] 31)))
     | (go_at_call 89; refine ((HCL _).out HBa.out).mono ?_; rintro e w5 ⟨rfl,b5⟩; have HB5 := hide (below_here HBa.out b5); have hs5 := b5.size; have E5 := hide (block_on HEa.out b5); obtain ⟨e0,e1,e2,e3⟩ := four_cells E5.out; have f0 := four_frozen E5.out 0; have f1 := four_frozen E5.out 1; have f2 := four_frozen E5.out 2; have f3 := four_frozen E5.out 3; have HRS := hide (four_set E5.out (.int .i64 r0) (.int .i64 r1) (.int .i64 r2) (.string r3)); have HBS := hide (four_below (b := w3.heap.size) HB5.out (Nat.le_refl _) (.int .i64 r0) (.int .i64 r1) (.int .i64 r2) (.string r3))))
   all_goals
    clear HB0 HBa HEa HK HCL a0 a1 a2 a3 a4 b5 HB5 hs5
    go_wp2_with fail
    go_meet
    exact ⟨_,rfl,HRS.out,HBS.out⟩
  case rest =>
   obtain ⟨g,rfl,hrs,hb5⟩ := hcut
   obtain ⟨w5,hw5⟩ : ∃ w5,w5 = wc := ⟨_,rfl⟩
   subst hw5
   have HB7 := hide (below_here HB3.out hb5)
   clear hb5 HK HCL a0 a1 a2 a3 a4 e0 e1
   obtain ⟨d0,d1,d2,d3⟩ := four_cells hrs
   go_wp2_with fail
   go_quiet (fail)
   have HB9 : Hid (Below w.heap.size w (w5.drewN nq)) := HB7.out.trans ⟨rfl,rfl,rfl,Nat.le_refl _,fun _ _ => rfl⟩
   go_wp2_with fail
   go_ret2
   exact ⟨by rw [HGE2.out]; rfl,HB9.out⟩
end Go.Proofs.YtgjoepdfhadmcaaGreatDoor
end

section
namespace Go.Proofs.YtgjoepdfhadmcaaGreatDoor
open Go.RowKit
set_option linter.unusedVariables false
set_option maxRecDepth 20000
theorem txs_small {z : Int} {qs : List Sq} (h : chipOk z qs = true) : ∀ x ∈ qs,∀ s ∈ x.1,s.size <= 1048576 := fun x hx s hs => by
 obtain ⟨i,hi,rfl⟩ := List.mem_iff_getElem.1 hx
 have := (sqOk_parts (chipOk_at h hi)).2.2.2 s (by unfold sqAt; rw [List.getD_eq_getElem?_getD,List.getElem?_eq_getElem hi]; exact hs)
 omega
set_option maxHeartbeats 6400000 in
theorem implRotten_any (z : Int) (a : Option Addr) (n cap : Nat) (qs : List Sq) (am : Option Addr) (m cm : Nat) (ps : List Pl) (op st : Int) (w : World) {lo hi lo' hi' : Nat} (h : Squares lo hi w a n qs) (hhi : hi <= w.heap.size) (hn : n <= 1048576) (hf : ∀ x ∈ qs,sqFits x) (hp : Places lo' hi' w am m ps) (hhi' : hi' <= w.heap.size) (hm : m <= 1048576) (hcl : m <= cm) (hT : Tab w) {aB aL aS aC aF : Addr} (E : Errs w aB aL aS aC aF) :
  Calls Tryz.prog 30 #[.agg #[.int .i64 z,.slice a n cap,.slice am m cm,.int .i64 op,.int .i64 st]] w fun e w' => ∃ a9 c9,e = .returned (.slice a9 (rotF z qs ps op st).length c9) ∧ (rotF z qs ps op st).length <= c9 ∧ w'.ownsRow w.heap.size 2 1 (.slice a9 (rotF z qs ps op st).length c9) (rotF z qs ps op st).length (valN (rotF z qs ps op st)) ∧ Below w.heap.size w w' := by
 obtain ⟨rf,hrf⟩ : ∃ r,r = rotF z qs ps op st := ⟨_,rfl⟩
 have HRF := hide hrf
 rw [<- hrf]
 clear hrf
 obtain ⟨wA,hwA⟩ : ∃ wA,wA = (w.alloc (.cells #[.int .i64 z,.slice a n cap,.slice am m cm,.int .i64 op,.int .i64 st] 29)).alloc (.cells #[] 2) := ⟨_,rfl⟩
 have hzA : wA.heap.size = w.heap.size + 1 + 1 := by rw [hwA]; simp
 have HBA : Hid (Below w.heap.size w wA) := by rw [hwA]; exact ((Below.refl _ _).alloc (Nat.le_refl _) _).alloc (by simp) _
 have H1 : Hid (wA.heap[w.heap.size]? = some (.cells #[.int .i64 z,.slice a n cap,.slice am m cm,.int .i64 op,.int .i64 st] 29)) := by rw [hwA]; exact heap_old (heap_new _ _)
 have HO0 : Hid (wA.ownsRow (w.heap.size + 1) 2 1 (.slice (some ⟨w.heap.size + 1,0,none⟩) 0 0) 0 (valN [])) := by
  rw [hwA]
  exact ⟨rfl,.inr ⟨w.heap.size + 1,0,#[],rfl,Nat.le_refl _,heap_at (by simp),Nat.zero_le _,by unfold maxLen; omega,rfl,rfl⟩⟩
 have HSQ := hide (h.later HBA.out hhi)
 have HPL := hide (hp.later HBA.out hhi')
 have HLP := hide hp.1
 have HF := hide hf
 have HTA := hide (hT.here HBA.out)
 have HEA := hide (E.here HBA.out)
 have HT0 := hide hT
 have HE0 := hide E
 clear h hf hp hT E
 obtain ⟨c0,c1,c2,c3,c4⟩ := five_cells H1.out
 go_enter Tryz.func30,Tryz.ntmps30
 go_wp2_with fail
 rw [<- hwA]
 clear hwA
 refine (implFtlOk_any z a n cap qs am m cm ps op st wA HSQ.out (by omega) hn HF.out HPL.out (by omega) hm hcl HTA.out HEA.out).mono ?_
 rintro e w1 ⟨rfl,b1⟩
 have K1 := hide (block_on H1.out b1)
 have HS1 := hide (HSQ.out.later b1 (by omega))
 have HP1 := hide (HPL.out.later b1 (by omega))
 have HB1 := hide (below_here HBA.out b1)
 have HO1 := hide (own_keepBy HO0.out (grown_below b1 none) (fun k e => by cases e))
 have hs1 := b1.size
 clear b1 H1 HSQ HPL HBA HO0 c0 c1 c2 c3 c4
 obtain ⟨c0,c1,c2,c3,c4⟩ := five_cells K1.out
 cases hok : ftlOk z qs ps op st with
 | false =>
  have HE : Hid (rf = []) := by show _ = _; rw [HRF.out]; unfold rotF; rw [hok]; rfl
  go_wp2_with fail
  go_ret
  exact ⟨_,0,by rw [HE.out]; rfl,by rw [HE.out]; exact Nat.le_refl _,by rw [HE.out]; exact HO1.out.mono (by omega),HB1.out⟩
 | true =>
  have HE : Hid (rf = rotL z qs ps m) := by show _ = _; rw [HRF.out]; unfold rotF; rw [hok,HLP.out]; rfl
  have HCK := hide (mapOk_chip (ftlOk_map hok))
  have hm64 : m <= 64 := by have := (mapOk_len (ftlOk_map hok)).2; rw [HLP.out] at this; exact this
  have HTX : Hid (∀ x ∈ qs,∀ s ∈ x.1,s.size <= 1048576) := fun x hx s hs => txs_small HCK.out x hx s hs
  clear hok
  obtain ⟨i0,hi0,hzz0,hzz1,hzz2⟩ := info_parts Tryz.infoI64e
  go_wp2_with fail
  go_loopw [16,3] (fun i v wr => ∃ (k j : Nat) (l : List Nat) (a9 : Option Addr) (c9 : Nat),k <= m ∧ i = .int .i64 (k : Int) ∧ l = rotL z qs ps k ∧ j = l.length ∧ v = .slice a9 j c9 ∧ j <= c9 ∧ wr.ownsRow (w.heap.size + 1) 2 1 (.slice a9 j c9) j (valN l) ∧ Below (w.heap.size + 1) w1 wr) (fun i _ _ => m - (intOf i).toNat)
  case atStart => exact ⟨0,0,[],_,0,Nat.zero_le _,rfl,rfl,rfl,rfl,Nat.le_refl _,HO1.out,Below.refl _ _⟩
  case round =>
   obtain ⟨k,j,l,a9,c9,hk,rfl,hl,hj,rfl,hjc,hO,hbel⟩ := hrel
   have HLL := hide hl
   have HJL := hide hj
   have HBB := hide hbel
   have HOO := hide hO
   have hszr := hbel.size
   have KR : Hid (wr.heap[w.heap.size]? = some (.cells #[.int .i64 z,.slice a n cap,.slice am m cm,.int .i64 op,.int .i64 st] 29)) := (hbel.block _ (by omega)).trans K1.out
   have hjk : j <= k := by rw [hj,hl]; exact rotL_le z qs ps k
   clear hl hj hO c0 c1 c2 c3 c4
   obtain ⟨a0,a1,a2,a3,a4⟩ := five_cells KR.out
   by_cases hlt : k < m
   ·have hpl : k < ps.length := by rw [HLP.out]; exact hlt
    obtain ⟨b,off,rfl,_,hb,hc⟩ := HP1.out.2.2 (by omega)
    have hbs : b < w.heap.size + 1 := by omega
    obtain ⟨c0,c1⟩ := pl_cells hc hbel hbs hlt
    have HRS := hide (rotL_succ z qs ps k)
    rw [<- HLL.out] at HRS
    have HRN : Hid (rotN z qs ps k = ((lyP (pageAt z qs (plAt ps k).1 (plAt ps k).2)).2.2.2.2 == 2)) := rfl
    have hlt2 : (k : Int) < (m : Int) := by omega
    clear hc hbel
    obtain ⟨y,hy⟩ : ∃ y,y = plAt ps k := ⟨_,rfl⟩
    rw [<- hy] at c0 c1 HRN
    clear hy
    obtain ⟨p,q⟩ := y
    dsimp only at c0 c1 HRN
    obtain ⟨wV,hwV⟩ : ∃ wV,wV = wr.alloc (.cells #[.int .i64 p,.int .i64 q] 39) := ⟨_,rfl⟩
    have hzV : wV.heap.size = wr.heap.size + 1 := by rw [hwV]; simp
    have HBV : Hid (Below wr.heap.size wr wV) := by rw [hwV]; exact (Below.refl _ _).alloc (Nat.le_refl _) _
    have HB4 := hide (HBB.out.trans (HBV.out.mono (by omega)))
    have hps : (pageAt z qs p q).size <= 1048576 := by have := pageAt_size (z := z) (qs := qs) (s := p) (p := q) HCK.out; omega
    have HVV : Hid (wV.heap[wr.heap.size]? = some (.cells #[.int .i64 p,.int .i64 q] 39)) := by rw [hwV]; exact heap_new _ _
    have HZV := hide hzV
    clear hzV
    go_upto_region 7 with fail
    rw [<- hwV]
    clear hwV a0 a1 a2 a3 a4 c0 c1
    have hzV := HZV.out
    obtain ⟨a0,a1,a2,a3,a4⟩ := five_cells (block_on KR.out HBV.out)
    obtain ⟨v0,v1⟩ := two_cells HVV.out
    go_wp2_with fail
    clear a0 a1 a2 a3 a4 v0 v1
    refine (implPageAt_any z a n cap qs p q wV (HS1.out.later HB4.out (by omega)) (by omega) hn HF.out HTX.out).mono ?_
    rintro e w4 ⟨rfl,b4⟩
    have HB5 := hide (HB4.out.trans (b4.mono (by omega)))
    have HOV := hide (own_keepBy HOO.out (grown_below (below_here HBV.out b4) none) (fun k e => by cases e))
    have hs4 := b4.size
    clear b4 HOO
    obtain ⟨tx,htx⟩ : ∃ t,t = pageAt z qs p q := ⟨_,rfl⟩
    rw [<- htx] at HRN hps
    rw [<- htx]
    clear htx
    go_wp2_with fail
    refine (implLying_any tx w4 (HT0.out.here (HB1.out.trans (HB5.out.mono (by omega)))) (HE0.out.here (HB1.out.trans (HB5.out.mono (by omega)))) hps).mono ?_
    rintro e w5 ⟨rfl,b5⟩
    obtain ⟨r,hr⟩ : ∃ r,r = lyP tx := ⟨_,rfl⟩
    rw [<- hr] at HRN
    rw [<- hr]
    clear hr
    obtain ⟨r0,r1,r2,r3,r4⟩ := r
    unfold lyV
    dsimp only at HRN ⊢
    obtain ⟨wP,hwP⟩ : ∃ wP,wP = w5.alloc (.cells #[.int .i64 r0,.int .i64 r1,.int .i64 r2,.string r3] 31) := ⟨_,rfl⟩
    have hzP : wP.heap.size = w5.heap.size + 1 := by rw [hwP]; simp
    have HBP : Hid (Below w5.heap.size w5 wP) := by rw [hwP]; exact (Below.refl _ _).alloc (Nat.le_refl _) _
    have HB6 := hide ((HB5.out.trans (b5.mono (by omega))).trans (HBP.out.mono (by have := b5.size; omega)))
    have HO5 := hide (own_keepBy HOV.out (grown_below (below_here b5 HBP.out) none) (fun k e => by cases e))
    have hs5 := b5.size
    have HZP := hide hzP
    clear b5 HOV hzP
    by_cases h2 : r4 = 2
    ·subst h2
     have HN2 : Hid (l ++ [k] = rotL z qs ps (k + 1)) := by
      show _ = _
      rw [HRS.out,HRN.out]; rfl
     go_upto_region 8 with fail
     rw [<- hwP]
     clear hwP
     have hzP := HZP.out
     have HOA := hide (HO5.out.alloc (.cells #[.int .i64 (k : Int)] 2))
     have HBA2 := hide ((Below.refl wP.heap.size wP).alloc (Nat.le_refl _) (.cells #[.int .i64 (k : Int)] 2))
     have hzA2 : (wP.alloc (.cells #[.int .i64 (k : Int)] 2)).heap.size = wP.heap.size + 1 := by simp
     clear hzP
     go_wp2_with (at_builtin; (refine wpList_append_own_at _ rfl (.tmp 34) (.tmp 36) 58 rfl (w.heap.size + 1) 2 i0 (.int .i64 0) 1 8 Tryz.underlying58 hi0 hzz0 hzz1 hzz2 rfl (by decide) _ j (valN l) rfl HOA.out ⟨wP.heap.size,0,none⟩ 1 1 [.int .i64 (k : Int)] rfl rfl (cell_one_new _ _ _) (by simp [Value.oneCell']) (by unfold maxLen; omega) (by omega) (by rw [hzA2,HZP.out]; omega) ?_); intro v2 w6 hown6 hgr6 hnil6 hat6; obtain ⟨g2,c2,rfl,hc2⟩ := some_form hown6 (fun e => by have h9 := (hnil6.1 e).2; cases h9); have HO6 := hide hown6; have HG6 := hide hgr6; clear hown6 hgr6 hnil6 hat6)
     have hln : (l ++ [k]).length = j + 1 := by simp; exact HJL.out.symm
     have HON : Hid (w6.ownsRow (w.heap.size + 1) 2 1 (.slice (some ⟨g2,0,none⟩) (j + 1) c2) (j + 1) (valN (l ++ [k]))) := by
      show World.ownsRow _ _ _ _ _ _ _
      rw [valN_append]
      exact HO6.out
     have HB7 := hide ((HB6.out.trans (HBA2.out.mono (by have := HZP.out; omega))).grown HG6.out (by rw [hzA2]; have := HZP.out; omega) (fun x hx => (HO5.out.lt x hx).1))
     exact ⟨⟨k + 1,j + 1,l ++ [k],some ⟨g2,0,none⟩,c2,by omega,by go_num,HN2.out,hln.symm,rfl,hc2,HON.out,HB7.out⟩,by simp [intOf]; omega⟩
    ·have g2 : (r4 == 2) = false := by simpa using h2
     have HN2 : Hid (l = rotL z qs ps (k + 1)) := by
      show _ = _
      rw [HRS.out,HRN.out,g2]; rfl
     clear h2
     go_wp2_with fail
     rw [<- hwP]
     exact ⟨⟨k + 1,j,l,a9,c9,by omega,by go_num,HN2.out,HJL.out,rfl,hjc,HO5.out,HB6.out⟩,by simp [intOf]; omega⟩
   ·obtain rfl : k = m := by omega
    have HBR := hide (HB1.out.trans (HBB.out.mono (by omega)))
    have HLR : Hid (l = rf) := by show _ = _; rw [HLL.out,HE.out]
    clear hbel
    go_wp2_with fail
    go_ret
    refine ⟨a9,c9,by rw [<- HLR.out,<- HJL.out]; rfl,by rw [<- HLR.out,<- HJL.out]; exact hjc,?_,HBR.out⟩
    rw [<- HLR.out,<- HJL.out]
    exact HOO.out.mono (by omega)
end Go.Proofs.YtgjoepdfhadmcaaGreatDoor
end

section
namespace Go.Proofs.YtgjoepdfhadmcaaGreatDoor
open Go.RowKit
set_option linter.unusedVariables false
set_option maxRecDepth 20000
set_option maxHeartbeats 6400000 in
theorem implSame_any (f g : Fv) (a : Option Addr) (n cap : Nat) (am : Option Addr) (m cm : Nat) (a' : Option Addr) (n' cap' : Nat) (am' : Option Addr) (m' cm' : Nat) (w : World) {lo hi lp hp lo' hi' lp' hp' : Nat} (h : Squares lo hi w a n f.qs) (hhi : hi <= w.heap.size) (hn : n <= 1048576) (hf : ∀ x ∈ f.qs,sqFits x) (hpl : Places lp hp w am m f.ps) (hhp : hp <= w.heap.size) (hm : m <= 1048576) (h' : Squares lo' hi' w a' n' g.qs) (hhi' : hi' <= w.heap.size) (hn' : n' <= 1048576) (hf' : ∀ x ∈ g.qs,sqFits x) (hpl' : Places lp' hp' w am' m' g.ps) (hhp' : hp' <= w.heap.size) (hm' : m' <= 1048576) (hcl : m <= cm) (hcl' : m' <= cm') (hT : Tab w) {aB aL aS aC aF : Addr} (E : Errs w aB aL aS aC aF) :
  Calls Tryz.prog 23 #[.agg #[.int .i64 f.z,.slice a n cap,.slice am m cm,.int .i64 f.op,.int .i64 f.st],.agg #[.int .i64 g.z,.slice a' n' cap',.slice am' m' cm',.int .i64 g.op,.int .i64 g.st]] w fun e w' => e = .returned (.bool (sameF f g)) ∧ Below w.heap.size w w' := by
 obtain ⟨sf,hsf⟩ : ∃ s,s = sameF f g := ⟨_,rfl⟩
 have HSF := hide hsf
 rw [<- hsf]
 clear hsf
 have HFA : Hid (∀ i,i < f.ps.length -> sameG f g i = false -> sameF f g = false) := fun i h1 h2 => sameF_fall h1 h2
 have HUF : Hid (sameF f g = (ftlOk f.z f.qs f.ps f.op f.st && (ftlOk g.z g.qs g.ps g.op g.st && (decide (f.ps.length = g.ps.length) && (List.range f.ps.length).all (sameG f g))))) := rfl
 have HSG : ∀ i s b t c,Hid ((s,b) = ftlGet f.z f.qs f.ps f.op f.st ((i : Nat) : Int) -> (t,c) = ftlGet g.z g.qs g.ps g.op g.st (i : Int) -> sameG f g i = (decide (s = t) && (b == c))) := fun i s b t c h1 h2 => sameG_of h1 h2
 obtain ⟨G,hG⟩ : ∃ G,G = sameG f g := ⟨_,rfl⟩
 obtain ⟨S,hS⟩ : ∃ S,S = sameF f g := ⟨_,rfl⟩
 rw [<- hG,<- hS] at HFA HUF
 rw [<- hG] at HSG
 rw [<- hS] at HSF
 clear hG hS
 obtain ⟨z,qs,ps,op,st⟩ := f
 obtain ⟨z',qs',ps',op',st'⟩ := g
 dsimp only at h hf hpl h' hf' hpl' HFA HUF HSG ⊢
 obtain ⟨wA,hwA⟩ : ∃ wA,wA = (w.alloc (.cells #[.int .i64 z,.slice a n cap,.slice am m cm,.int .i64 op,.int .i64 st] 29)).alloc (.cells #[.int .i64 z',.slice a' n' cap',.slice am' m' cm',.int .i64 op',.int .i64 st'] 29) := ⟨_,rfl⟩
 have hzA : wA.heap.size = w.heap.size + 1 + 1 := by rw [hwA]; simp
 have HBA : Hid (Below w.heap.size w wA) := by rw [hwA]; exact ((Below.refl _ _).alloc (Nat.le_refl _) _).alloc (by simp) _
 have H1 : Hid (wA.heap[w.heap.size]? = some (.cells #[.int .i64 z,.slice a n cap,.slice am m cm,.int .i64 op,.int .i64 st] 29)) := by rw [hwA]; exact heap_old (heap_new _ _)
 have H2 : Hid (wA.heap[w.heap.size + 1]? = some (.cells #[.int .i64 z',.slice a' n' cap',.slice am' m' cm',.int .i64 op',.int .i64 st'] 29)) := by rw [hwA]; exact heap_at (by simp)
 have HSQ := hide (h.later HBA.out hhi)
 have HPL := hide (hpl.later HBA.out hhp)
 have HSQ' := hide (h'.later HBA.out hhi')
 have HPL' := hide (hpl'.later HBA.out hhp')
 have HLP := hide hpl.1
 have HLP' := hide hpl'.1
 have HF := hide hf
 have HF' := hide hf'
 have HTA := hide (hT.here HBA.out)
 have HEA := hide (E.here HBA.out)
 clear h hf hpl h' hf' hpl' hT E
 obtain ⟨c0,c1,c2,c3,c4⟩ := five_cells H1.out
 obtain ⟨d0,d1,d2,d3,d4⟩ := five_cells H2.out
 go_enter Tryz.func23,Tryz.ntmps23
 go_wp2_with fail
 rw [<- hwA]
 clear hwA
 refine (implFtlOk_any z a n cap qs am m cm ps op st wA HSQ.out (by omega) hn HF.out HPL.out (by omega) hm hcl HTA.out HEA.out).mono ?_
 rintro e w1 ⟨rfl,b1⟩
 have K1 := hide (block_on H1.out b1)
 have K2 := hide (block_on H2.out b1)
 have HB1 := hide (below_here HBA.out b1)
 have HS1 := hide (HSQ.out.later b1 (by omega))
 have HP1 := hide (HPL.out.later b1 (by omega))
 have HS1' := hide (HSQ'.out.later b1 (by omega))
 have HP1' := hide (HPL'.out.later b1 (by omega))
 have HT1 := hide (HTA.out.here b1)
 have HE1 := hide (HEA.out.here b1)
 have hs1 := b1.size
 clear HTA HEA b1 H1 H2 HSQ HPL HSQ' HPL' HBA c0 c1 c2 c3 c4 d0 d1 d2 d3 d4
 obtain ⟨c0,c1,c2,c3,c4⟩ := five_cells K1.out
 obtain ⟨d0,d1,d2,d3,d4⟩ := five_cells K2.out
 cases hok : ftlOk z qs ps op st with
 | false =>
  have HE : Hid (sf = false) := by show _ = _; rw [HSF.out,HUF.out,hok]; rfl
  go_wp2_with fail
  go_ret
  exact ⟨ret_bool HE.out.symm,HB1.out⟩
 | true =>
  have HOK := hide hok
  rw [hok,Bool.true_and] at HUF
  clear hok
  go_wp2_with fail
  refine (implFtlOk_any z' a' n' cap' qs' am' m' cm' ps' op' st' w1 HS1'.out (by omega) hn' HF'.out HP1'.out (by omega) hm' hcl' HT1.out HE1.out).mono ?_
  rintro e w2 ⟨rfl,b2⟩
  have K3 := hide (block_on K1.out b2)
  have K4 := hide (block_on K2.out b2)
  have HB2 := hide (below_here HB1.out b2)
  have HS2 := hide (HS1.out.later b2 (by omega))
  have HP2 := hide (HP1.out.later b2 (by omega))
  have HS2' := hide (HS1'.out.later b2 (by omega))
  have HP2' := hide (HP1'.out.later b2 (by omega))
  have HT2 := hide (HT1.out.here b2)
  have HE2 := hide (HE1.out.here b2)
  have hs2 := b2.size
  clear HT1 HE1 b2 K1 K2 HB1 HS1 HP1 HS1' HP1' c0 c1 c2 c3 c4 d0 d1 d2 d3 d4
  obtain ⟨c0,c1,c2,c3,c4⟩ := five_cells K3.out
  obtain ⟨d0,d1,d2,d3,d4⟩ := five_cells K4.out
  cases hok' : ftlOk z' qs' ps' op' st' with
  | false =>
   have HE : Hid (sf = false) := by show _ = _; rw [HSF.out,HUF.out,hok']; rfl
   go_wp2_with fail
   go_ret
   exact ⟨ret_bool HE.out.symm,HB2.out⟩
  | true =>
   have HOK' := hide hok'
   rw [hok',Bool.true_and] at HUF
   clear hok'
   by_cases hlen : m = m'
   ·subst hlen
    have HU2 : Hid (S = (List.range ps.length).all G) := by show _ = _; rw [HUF.out,HLP.out,HLP'.out]; simp
    have g1 : ((m : Int) != (m : Int)) = false := by simp
    have hm64 : m <= 64 := by have := (mapOk_len (ftlOk_map HOK.out)).2; rw [HLP.out] at this; exact this
    clear HUF
    go_wp2_with fail
    go_loopw [30] (fun i wr => ∃ k : Nat,k <= m ∧ i = .int .i64 (k : Int) ∧ (List.range k).all G = true ∧ Below w2.heap.size w2 wr) (fun i _ => m - (intOf i).toNat)
    case atStart => exact ⟨0,Nat.zero_le _,rfl,rfl,Below.refl _ _⟩
    case round =>
     obtain ⟨k,hk,rfl,hall,hbel⟩ := hrel
     have HAL := hide hall
     have HBB := hide hbel
     have hszr := hbel.size
     have KR := hide (block_on K3.out hbel)
     have KR' := hide (block_on K4.out hbel)
     clear hall hbel c0 c1 c2 c3 c4 d0 d1 d2 d3 d4
     obtain ⟨c0,c1,c2,c3,c4⟩ := five_cells KR.out
     obtain ⟨d0,d1,d2,d3,d4⟩ := five_cells KR'.out
     by_cases hlt : k < m
     ·have hpl : k < ps.length := by rw [HLP.out]; exact hlt
      have hpl' : k < ps'.length := by rw [HLP'.out]; exact hlt
      have hlt2 : (k : Int) < (m : Int) := by omega
      have HFK := hide (HFA.out k hpl)
      have HST : Hid (G k = true -> (List.range (k + 1)).all G = true) := fun hh => all_range_step HAL.out hh
      go_wp2_with fail
      refine (entryOf_any z a n cap qs am m cm ps op st k wr (HS2.out.later HBB.out (by omega)) (by omega) hn (HP2.out.later HBB.out (by omega)) (by omega) (HT2.out.here HBB.out) (HE2.out.here HBB.out) HOK.out hlt).mono ?_
      rintro e w3 ⟨rfl,b3⟩
      have HB3 := hide (below_here HBB.out b3)
      have KR3 := hide (block_on KR.out b3)
      have KR3' := hide (block_on KR'.out b3)
      have hs3 := b3.size
      clear b3 c0 c1 c2 c3 c4 d0 d1 d2 d3 d4
      obtain ⟨c0,c1,c2,c3,c4⟩ := five_cells KR3.out
      obtain ⟨d0,d1,d2,d3,d4⟩ := five_cells KR3'.out
      obtain ⟨g1,hg1⟩ : ∃ g,g = ftlGet z qs ps op st (k : Int) := ⟨_,rfl⟩
      have HG1 := hide hg1
      rw [<- hg1]
      clear hg1
      obtain ⟨s,b⟩ := g1
      dsimp only
      go_wp2_with fail
      refine (entryOf_any z' a' n' cap' qs' am' m cm' ps' op' st' k w3 (HS2'.out.later HB3.out (by omega)) (by omega) hn' (HP2'.out.later HB3.out (by omega)) (by omega) (HT2.out.here HB3.out) (HE2.out.here HB3.out) HOK'.out hlt).mono ?_
      rintro e w4 ⟨rfl,b4⟩
      have HB4 := hide (below_here HB3.out b4)
      have KR4 := hide (block_on KR3.out b4)
      have hs4 := b4.size
      clear b4 c0 c1 c2 c3 c4 d0 d1 d2 d3 d4
      obtain ⟨c0,c1,c2,c3,c4⟩ := five_cells KR4.out
      obtain ⟨g2,hg2⟩ : ∃ g,g = ftlGet z' qs' ps' op' st' (k : Int) := ⟨_,rfl⟩
      have HG2 := hide hg2
      rw [<- hg2]
      clear hg2
      obtain ⟨t,c⟩ := g2
      dsimp only
      have HGK : Hid (G k = (decide (s = t) && (b == c))) := (HSG k s b t c).out HG1.out HG2.out
      have HBR := hide (below_here HB2.out HB4.out)
      clear HSG HG1 HG2
      by_cases est : s = t
      ·subst est
       rw [show decide (s = s) = true by simp,Bool.true_and] at HGK
       have q1 := text_same s
       by_cases ebc : b = c
       ·subst ebc
        have HN := hide (HST.out (by rw [HGK.out]; simp))
        have q2 : (b == b) = true := by simp
        go_wp2_with fail
        exact ⟨⟨k + 1,by omega,by go_num,HN.out,HB4.out⟩,by simp [intOf]; omega⟩
       ·have q2 : (b == c) = false := by simpa using ebc
        have HE : Hid (sf = false) := by show _ = _; rw [HSF.out]; exact HFK.out (by rw [HGK.out,q2])
        go_wp2_with fail
        go_ret
        exact ⟨ret_bool HE.out.symm,HBR.out⟩
      ·have q1 := text_other est
       have HE : Hid (sf = false) := by show _ = _; rw [HSF.out]; exact HFK.out (by rw [HGK.out,decide_eq_false est]; rfl)
       go_wp2_with fail
       go_ret
       exact ⟨ret_bool HE.out.symm,HBR.out⟩
     ·obtain rfl : k = m := by omega
      have HE : Hid (sf = true) := by show _ = _; rw [HSF.out,HU2.out,HLP.out]; exact HAL.out
      have HBR := hide (below_here HB2.out HBB.out)
      go_wp2_with fail
      go_ret
      exact ⟨ret_bool HE.out.symm,HBR.out⟩
   ·have g1 : ((m : Int) != (m' : Int)) = true := by simp; omega
    have HE : Hid (sf = false) := by show _ = _; rw [HSF.out,HUF.out,HLP.out,HLP'.out,decide_eq_false hlen]; rfl
    go_wp2_with fail
    go_ret
    exact ⟨ret_bool HE.out.symm,HB2.out⟩
end Go.Proofs.YtgjoepdfhadmcaaGreatDoor
end

