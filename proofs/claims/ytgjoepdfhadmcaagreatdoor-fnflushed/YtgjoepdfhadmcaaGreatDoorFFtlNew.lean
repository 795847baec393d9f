/- . -/
import Derived.Test.YtgjoepdfhadmcaaGreatDoorFFtlOwnP
import Derived.Test.YtgjoepdfhadmcaaGreatDoorFRepeatW
import Derived.Test.YtgjoepdfhadmcaaGreatDoorFChipGrow
import Derived.Test.YtgjoepdfhadmcaaGreatDoorFInfo
import Derived.Deep.RegionHeld3
import Derived.Deep.RegionLaw
import Derived.Deep.AppendLies
namespace Go.Proofs.YtgjoepdfhadmcaaGreatDoor
open Go.RowKit
set_option linter.unusedVariables false
set_option maxRecDepth 20000
def nfOk (q z n : Int) : Bool := newOk q z && inB n 1 64
def newF (q z n : Int) : Fv := if nfOk q z n then ⟨z,newQ q z,List.replicate n.toNat (-1,0),-1,0⟩ else ⟨0,[],[],0,0⟩
theorem own_of_ans {lo hi gm : Nat} {w : World} {a am : Option Addr} {qs : List Sq} {ps : List Pl} (h : AnsQ lo hi w a qs.length qs) (hne : qs ≠ []) (hp : OwnPlaces gm (gm + 1) w am ps.length ps) (h1 : hi <= gm) (h2 : gm < w.heap.size) (hP : ∀ i,i < qs.length -> (sqAt qs i).1.length = 0) : FtlOwn lo w.heap.size w a am qs ps := by
 obtain ⟨h3,h4 | ⟨g,off,A,C,P,h4⟩⟩ := h
 ·exact absurd h4.2 hne
 ·have hg := h4.atG
  exact ⟨Nat.le_refl _,.inr ⟨g,off,A,C,P,gm,h4.wide (Nat.le_refl _) (by omega) (Nat.le_refl _),hp,by omega,h2,by omega,fun i hi h0 => absurd h0 (by rw [hP i hi]; omega)⟩⟩
theorem newQ_none (q z : Int) : ∀ i,i < (newQ q z).length -> (sqAt (newQ q z) i).1.length = 0 := by
 intro i hi
 unfold newQ at hi ⊢
 split at hi
 ·rename_i h
  rw [if_pos h]
  unfold sqAt
  rw [List.getD_eq_getElem?_getD,List.getElem?_replicate]
  rw [List.length_replicate] at hi
  rw [if_pos hi]
  rfl
 ·simp at hi
theorem newQ_ne {q z : Int} (h : newOk q z = true) : newQ q z ≠ [] := by
 obtain ⟨n,rfl,h1,h2,_⟩ := newOk_nat h
 unfold newQ
 rw [if_pos h]
 intro e
 have := congrArg List.length e
 rw [List.length_replicate] at this
 simp at this
 omega
theorem five_other {w : World} {k b : Nat} {o : Obj} (h : w.heap[k]? = some o) (hne : b ≠ k) (v0 v1 v2 v3 v4 : Value) : (((((w.setCell ⟨b,0,none⟩ v0).setCell ⟨b,1,none⟩ v1).setCell ⟨b,2,none⟩ v2).setCell ⟨b,3,none⟩ v3).setCell ⟨b,4,none⟩ v4).heap[k]? = some o :=
 set_other (set_other (set_other (set_other (set_other h hne _) hne _) hne _) hne _) hne _
set_option maxHeartbeats 3200000 in
theorem implNewFtl_any (q z n : Int) (w : World) :
  Calls Tryz.prog 74 #[.int .i64 q,.int .i64 z,.int .i64 n] w fun e w' => ∃ v,e = .returned (.tuple #[v,.bool (nfOk q z n)]) ∧ FtlAns w (newF q z n) v w' := by
 obtain ⟨fv,hfv⟩ : ∃ fv,fv = newF q z n := ⟨_,rfl⟩
 have HFV := hide hfv
 rw [<- hfv]
 clear hfv
 obtain ⟨B,hB⟩ : ∃ B,B = nfOk q z n := ⟨_,rfl⟩
 have HBV := hide hB
 rw [<- hB]
 clear hB
 obtain ⟨wA,hwA⟩ : ∃ wA,wA = w.alloc (.cells #[.int .i64 0,.slice none 0 0,.slice none 0 0,.int .i64 0,.int .i64 0] 29) := ⟨_,rfl⟩
 have hzA : wA.heap.size = w.heap.size + 1 := by rw [hwA]; simp
 have HBA : Hid (Below w.heap.size w wA) := by rw [hwA]; exact (Below.refl _ _).alloc (Nat.le_refl _) _
 have H0 : Hid (wA.heap[w.heap.size]? = some (.cells #[.int .i64 0,.slice none 0 0,.slice none 0 0,.int .i64 0,.int .i64 0] 29)) := by rw [hwA]; exact heap_new _ _
 have HCN := hide (implNewChip_ans q z wA)
 have HNE := hide (fun h => newQ_ne (q := q) (z := z) h)
 have HNN := hide (newQ_none q z)
 obtain ⟨Z,hZ⟩ : ∃ Z,Z = newZ q z := ⟨_,rfl⟩
 obtain ⟨Q,hQ⟩ : ∃ Q,Q = newQ q z := ⟨_,rfl⟩
 have HZ := hide hZ
 have HQ := hide hQ
 rw [<- hZ,<- hQ] at HCN
 rw [<- hQ] at HNE HNN
 clear hZ hQ
 go_enter Tryz.func74,Tryz.ntmps74
 go_wp2_with fail
 rw [<- hwA]
 clear hwA
 refine HCN.out.mono ?_
 rintro e w1 ⟨v,rfl,p,c,rfl,ho,hb⟩
 obtain ⟨wC,hwC⟩ : ∃ wC,wC = w1.alloc (.cells #[.int .i64 Z,.slice p Q.length c] 26) := ⟨_,rfl⟩
 have hzC : wC.heap.size = w1.heap.size + 1 := by rw [hwC]; simp
 have HBC : Hid (Below w1.heap.size w1 wC) := by rw [hwC]; exact (Below.refl _ _).alloc (Nat.le_refl _) _
 have HC : Hid (wC.heap[w1.heap.size]? = some (.cells #[.int .i64 Z,.slice p Q.length c] 26)) := by rw [hwC]; exact heap_new _ _
 have K0 := hide (block_on (block_on H0.out hb) HBC.out)
 have HAQ := hide (ho.later HBC.out (Nat.le_refl _))
 have HB1 := hide (below_here (below_here HBA.out hb) HBC.out)
 have hs1 := hb.size
 clear ho hb HBC H0 HBA HCN
 obtain ⟨d0,d1⟩ := two_cells HC.out
 obtain ⟨p0,p1,p2,p3,p4⟩ := five_cells K0.out
 have f0 := four_frozen K0.out 0
 have f1 := four_frozen K0.out 1
 have f2 := four_frozen K0.out 2
 have f3 := four_frozen K0.out 3
 have f4 := four_frozen K0.out 4
 have HRS := hide (five_set K0.out (.int .i64 0) (.slice none 0 0) (.slice none 0 0) (.int .i64 0) (.int .i64 0))
 have HAS := hide (five_aside (b := w.heap.size) (Aside.refl (w.heap.size) (w.heap.size + 1) wC) (Nat.le_refl _) (Nat.lt_succ_self _) (.int .i64 0) (.slice none 0 0) (.slice none 0 0) (.int .i64 0) (.int .i64 0))
 have HBF := hide (HB1.out.trans (HAS.out.below (B := w.heap.size) (Nat.le_refl _) (by omega)))
 rw [hwC] at d0 d1 p0 p1 p2 p3 p4 f0 f1 f2 f3 f4
 have HZC := hide hzC
 clear hzC
 cases hok : newOk q z with
 | false =>
  have HE : Hid (B = false) := by show _ = _; rw [HBV.out]; unfold nfOk; rw [hok]; rfl
  have HFE : Hid (fv = ⟨0,[],[],0,0⟩) := by show _ = _; rw [HFV.out]; unfold newF nfOk; rw [hok]; rfl
  go_wp2_with fail
  rw [<- hwC]
  refine bodyPost_ret (results_ct rfl rfl (run_loadVar_row _ _ _ _ _ _ _ HRS.out Tryz.underlying29 rfl (by kernel_rfl))) rfl ⟨.agg #[.int .i64 0,.slice none 0 0,.slice none 0 0,.int .i64 0,.int .i64 0],by rw [HE.out]; rfl,none,0,none,0,by rw [HFE.out]; rfl,⟨Nat.le_refl _,.inl ?_⟩,HBF.out,by rw [HFE.out]; exact Nat.le_refl _⟩
  rw [HFE.out]; exact ⟨rfl,rfl⟩
 | true =>
  by_cases hn : 1 <= n ∧ n <= 64
  ·obtain ⟨N,rfl⟩ : ∃ N : Nat,n = (N : Int) := ⟨n.toNat,by omega⟩
   have HE : Hid (B = true) := by show _ = _; rw [HBV.out]; unfold nfOk inB; rw [hok]; simp; omega
   have HFE : Hid (fv = ⟨Z,Q,List.replicate N (-1,0),-1,0⟩) := by
    show _ = _
    have e1 : nfOk q z (N : Int) = true := by rw [<- HBV.out]; exact HE.out
    have e2 : newZ q z = z := by unfold newZ; rw [hok]; rfl
    rw [HFV.out,HZ.out,HQ.out,e2]; unfold newF; rw [e1,if_pos rfl,Int.toNat_natCast]
   have HQN := hide (HNE.out hok)
   have g1 : decide ((N : Int) < 1) = false := by simp; omega
   have g2 : decide ((64 : Int) < (N : Int)) = false := by simp; omega
   clear HRS HAS HBF HNE
   go_upto_region 4 with fail
   rw [<- hwC]
   rw [<- hwC] at d0 d1 p0 p1 p2 p3 p4 f0 f1 f2 f3 f4
   clear hwC
   obtain ⟨wP,hwP⟩ : ∃ wP,wP = wC.alloc (.cells #[.int .i64 (-1),.int .i64 0] 39) := ⟨_,rfl⟩
   have hzP : wP.heap.size = wC.heap.size + 1 := by rw [hwP]; simp
   have HBP : Hid (Below wC.heap.size wC wP) := by rw [hwP]; exact (Below.refl _ _).alloc (Nat.le_refl _) _
   have HPP : Hid (Places wC.heap.size (wC.heap.size + 1) wP (some ⟨wC.heap.size,0,none⟩) 1 [(-1,0)]) := by
    rw [hwP]
    refine ⟨rfl,by simp,fun _ => ⟨wC.heap.size,0,rfl,Nat.le_refl _,Nat.lt_succ_self _,fun j hj => ?_⟩⟩
    obtain ⟨k0,k1⟩ := two_cells (heap_new wC (.cells #[.int .i64 (-1),.int .i64 0] 39))
    rcases j with _ | _ | j
    ·exact k0
    ·exact k1
    ·omega
   have HCR : Hid (Calls Tryz.prog 133 #[.slice (some ⟨wC.heap.size,0,none⟩) 1 1,.int .i64 (N : Int)] (wC.alloc (.cells #[.int .i64 (-1),.int .i64 0] 39)).drew fun e w' => e = .returned (.slice (some ⟨wP.heap.size,0,none⟩) N N) ∧ OwnPlaces wP.heap.size (wP.heap.size + 1) w' (some ⟨wP.heap.size,0,none⟩) N (List.replicate N (-1,0)) ∧ Below wP.heap.size wP w') := by
    rw [<- hwP]
    refine (repeat_any N wP.drew (cap := 1) (show Places _ _ wP.drew _ _ _ from HPP.out) (by show _ <= wP.heap.size; omega) (by omega) (by omega)).mono ?_
    rintro e w' ⟨h1,h2,h3⟩
    exact ⟨h1,h2,h3.os,h3.tape,h3.output,h3.size,h3.block⟩
   clear HPP hwP
   have hne1 : w.heap.size ≠ w1.heap.size := by omega
   have HZP := hide hzP
   clear hzP
   have HKC : ∀ w9 : World,Hid (w9.heap[w1.heap.size]? = some (.cells #[.int .i64 Z,.slice p Q.length c] 26) -> w9.cell? ⟨w1.heap.size,0,none⟩ = some (.int .i64 Z) ∧ w9.cell? ⟨w1.heap.size,1,none⟩ = some (.slice p Q.length c)) := fun w9 h9 => two_cells h9
   have CD : Hid (wC.drew.heap[w1.heap.size]? = some (.cells #[.int .i64 Z,.slice p Q.length c] 26)) := HC.out
   have CP : Hid ((wC.alloc (.cells #[.int .i64 (-1),.int .i64 0] 39)).heap[w1.heap.size]? = some (.cells #[.int .i64 Z,.slice p Q.length c] 26)) := heap_old HC.out
   have CPD : Hid ((wC.alloc (.cells #[.int .i64 (-1),.int .i64 0] 39)).drew.heap[w1.heap.size]? = some (.cells #[.int .i64 Z,.slice p Q.length c] 26)) := heap_old HC.out
   go_region_held3 (fun w9 => w9.cell? ⟨w1.heap.size,0,none⟩ = some (.int .i64 Z) ∧ w9.cell? ⟨w1.heap.size,1,none⟩ = some (.slice p Q.length c))
    (first | with_reducible exact (HKC _).out HC.out | with_reducible exact (HKC _).out CD.out | with_reducible exact (HKC _).out CP.out | with_reducible exact (HKC _).out CPD.out | with_reducible exact (HKC _).out C5.out | with_reducible exact (HKC _).out (five_other C5.out hne1 _ _ _ _ _) | fail)
    (first
    | (go_at_call 133; refine HCR.out.mono ?_; rintro e w5 ⟨rfl,hP5,b5⟩; have K5 := hide (block_on (block_on K0.out HBP.out) b5); have C5 := hide (block_on (block_on HC.out HBP.out) b5); have HP5 := hide hP5; have HB5 := hide (below_here HBP.out b5); obtain ⟨q0,q1,q2,q3,q4⟩ := five_cells K5.out; have g0 := four_frozen K5.out 0; have g1' := four_frozen K5.out 1; have g2' := four_frozen K5.out 2; have g3 := four_frozen K5.out 3; have g4 := four_frozen K5.out 4; have hs5 := b5.size; clear hP5 b5))
   all_goals
    have hzC := HZC.out
    have hzP := HZP.out
    have HRS := hide (five_set K5.out (.int .i64 Z) (.slice p Q.length c) (.slice (some ⟨wP.heap.size,0,none⟩) N N) (.int .i64 (-1)) (.int .i64 0))
    have HAS := hide (five_aside (b := w.heap.size) (Aside.refl (w.heap.size) (w.heap.size + 1) w5) (Nat.le_refl _) (Nat.lt_succ_self _) (.int .i64 Z) (.slice p Q.length c) (.slice (some ⟨wP.heap.size,0,none⟩) N N) (.int .i64 (-1)) (.int .i64 0))
    have HBF := hide ((below_here HB1.out HB5.out).trans (HAS.out.below (B := w.heap.size) (Nat.le_refl _) (by omega)))
    have hlt5 : wP.heap.size < w5.heap.size := by have := HP5.out.2.1; omega
    have HOF := hide (own_of_ans (ps := List.replicate N (-1,0)) (HAQ.out.later HB5.out (by omega)) HQN.out (by rw [List.length_replicate]; exact HP5.out) (by omega) hlt5 HNN.out)
    clear hzP
    go_wp2_with fail
    have hzP := HZP.out
    refine bodyPost_ret (results_ct rfl rfl (run_loadVar_row _ _ _ _ _ _ _ HRS.out Tryz.underlying29 rfl (by kernel_rfl))) rfl ⟨.agg #[.int .i64 Z,.slice p Q.length c,.slice (some ⟨wP.heap.size,0,none⟩) N N,.int .i64 (-1),.int .i64 0],by rw [HE.out]; rfl,p,c,some ⟨wP.heap.size,0,none⟩,N,by rw [HFE.out]; unfold fvV; dsimp only; rw [List.length_replicate],?_,HBF.out,by rw [HFE.out]; show (List.replicate N _).length <= N; rw [List.length_replicate]; exact Nat.le_refl _⟩
    rw [HFE.out]
    exact (HOF.out.aside HAS.out (.inl (by omega))).wide (by omega) HAS.out.size (Nat.le_refl _)
  ·have HE : Hid (B = false) := by show _ = _; rw [HBV.out]; unfold nfOk inB; rw [hok]; simp; omega
   have HFE : Hid (fv = ⟨0,[],[],0,0⟩) := by
    show _ = _
    have e1 : nfOk q z n = false := by rw [<- HBV.out]; exact HE.out
    rw [HFV.out]; unfold newF; rw [e1]; rfl
   by_cases hn1 : n < 1
   ·go_wp2_with fail
    rw [<- hwC]
    refine bodyPost_ret (results_ct rfl rfl (run_loadVar_row _ _ _ _ _ _ _ HRS.out Tryz.underlying29 rfl (by kernel_rfl))) rfl ⟨.agg #[.int .i64 0,.slice none 0 0,.slice none 0 0,.int .i64 0,.int .i64 0],by rw [HE.out]; rfl,none,0,none,0,by rw [HFE.out]; rfl,⟨Nat.le_refl _,.inl ?_⟩,HBF.out,by rw [HFE.out]; exact Nat.le_refl _⟩
    rw [HFE.out]; exact ⟨rfl,rfl⟩
   ·have hn2 : (64 : Int) < n := by omega
    have hn3 : decide (n < 1) = false := by simpa using hn1
    go_wp2_with fail
    rw [<- hwC]
    refine bodyPost_ret (results_ct rfl rfl (run_loadVar_row _ _ _ _ _ _ _ HRS.out Tryz.underlying29 rfl (by kernel_rfl))) rfl ⟨.agg #[.int .i64 0,.slice none 0 0,.slice none 0 0,.int .i64 0,.int .i64 0],by rw [HE.out]; rfl,none,0,none,0,by rw [HFE.out]; rfl,⟨Nat.le_refl _,.inl ?_⟩,HBF.out,by rw [HFE.out]; exact Nat.le_refl _⟩
    rw [HFE.out]; exact ⟨rfl,rfl⟩
theorem own_places_of {B n gm cm : Nat} {w : World} {ps : List Pl} (pl : PlOwn B w (.slice (some ⟨gm,0,none⟩) n cm) ps) : OwnPlaces gm (gm + 1) w (some ⟨gm,0,none⟩) ps.length ps ∧ B <= gm ∧ gm < w.heap.size := by
 obtain ⟨a',c',e,_⟩ := pl_form pl
 simp only [Value.slice.injEq] at e
 obtain ⟨_,rfl,_⟩ := e
 obtain ⟨cs,fz,hk⟩ := Go.Lib.ownsRow_kind pl gm rfl
 have hgm : gm < w.heap.size := (Array.getElem?_eq_some_iff.1 hk).1
 refine ⟨⟨rfl,by omega,fun h0 => ⟨gm,0,rfl,Nat.le_refl _,Nat.lt_succ_self _,fun i hi => ⟨?_,by rw [Nat.zero_add]; exact World.ownsRow.frozenAt pl i⟩⟩⟩,(World.ownsRow.lt pl gm rfl).1,hgm⟩
 rw [Nat.zero_add,World.ownsRow.cellAt pl i (by omega),plL_at ps (by omega)]
theorem rep_snoc (k : Nat) (x : Pl) : List.replicate k x ++ [x] = List.replicate (k + 1) x := by rw [List.replicate_succ']
theorem below_grown {X n s : Nat} {w w' : World} {v : Value} {xs : List Value} {e : TypeId} (ho : w.ownsRow (X + 1) e s v n xs) (hg : w.grownBy w' v.ownBlock) (hX : X <= w.heap.size) : Below X w w' :=
 ⟨hg.os,hg.tape,hg.output,hg.size,fun k hk => hg.block k (by omega) (fun e => by have := (World.ownsRow.lt ho k e.symm).1; omega)⟩
set_option maxHeartbeats 3200000 in
theorem specNewFtl_any (q z n : Int) (w : World) :
  Calls Tryz.prog 25 #[.int .i64 q,.int .i64 z,.int .i64 n] w fun e w' => ∃ v,e = .returned (.tuple #[v,.bool (nfOk q z n)]) ∧ FtlAns w (newF q z n) v w' := by
 obtain ⟨fv,hfv⟩ : ∃ fv,fv = newF q z n := ⟨_,rfl⟩
 have HFV := hide hfv
 rw [<- hfv]
 clear hfv
 obtain ⟨B,hB⟩ : ∃ B,B = nfOk q z n := ⟨_,rfl⟩
 have HBV := hide hB
 rw [<- hB]
 clear hB
 obtain ⟨wA,hwA⟩ : ∃ wA,wA = w.alloc (.cells #[.int .i64 0,.slice none 0 0,.slice none 0 0,.int .i64 0,.int .i64 0] 29) := ⟨_,rfl⟩
 have hzA : wA.heap.size = w.heap.size + 1 := by rw [hwA]; simp
 have HBA : Hid (Below w.heap.size w wA) := by rw [hwA]; exact (Below.refl _ _).alloc (Nat.le_refl _) _
 have H0 : Hid (wA.heap[w.heap.size]? = some (.cells #[.int .i64 0,.slice none 0 0,.slice none 0 0,.int .i64 0,.int .i64 0] 29)) := by rw [hwA]; exact heap_new _ _
 have HCN := hide (specNewChip_ans q z wA)
 have HNE := hide (fun h => newQ_ne (q := q) (z := z) h)
 have HNN := hide (newQ_none q z)
 obtain ⟨Z,hZ⟩ : ∃ Z,Z = newZ q z := ⟨_,rfl⟩
 obtain ⟨Q,hQ⟩ : ∃ Q,Q = newQ q z := ⟨_,rfl⟩
 have HZ := hide hZ
 have HQ := hide hQ
 rw [<- hZ,<- hQ] at HCN
 rw [<- hQ] at HNE HNN
 clear hZ hQ
 go_enter Tryz.func25,Tryz.ntmps25
 go_wp2_with fail
 rw [<- hwA]
 clear hwA
 refine HCN.out.mono ?_
 rintro e w1 ⟨v,rfl,p,c,rfl,ho,hb⟩
 obtain ⟨wC,hwC⟩ : ∃ wC,wC = w1.alloc (.cells #[.int .i64 Z,.slice p Q.length c] 26) := ⟨_,rfl⟩
 have hzC : wC.heap.size = w1.heap.size + 1 := by rw [hwC]; simp
 have HBC : Hid (Below w1.heap.size w1 wC) := by rw [hwC]; exact (Below.refl _ _).alloc (Nat.le_refl _) _
 have HC : Hid (wC.heap[w1.heap.size]? = some (.cells #[.int .i64 Z,.slice p Q.length c] 26)) := by rw [hwC]; exact heap_new _ _
 have K0 := hide (block_on (block_on H0.out hb) HBC.out)
 have HAQ := hide (ho.later HBC.out (Nat.le_refl _))
 have HB1 := hide (below_here (below_here HBA.out hb) HBC.out)
 have hs1 := hb.size
 clear ho hb HBC H0 HBA HCN
 obtain ⟨d0,d1⟩ := two_cells HC.out
 obtain ⟨p0,p1,p2,p3,p4⟩ := five_cells K0.out
 have f0 := four_frozen K0.out 0
 have f1 := four_frozen K0.out 1
 have f2 := four_frozen K0.out 2
 have f3 := four_frozen K0.out 3
 have f4 := four_frozen K0.out 4
 have HRS := hide (five_set K0.out (.int .i64 0) (.slice none 0 0) (.slice none 0 0) (.int .i64 0) (.int .i64 0))
 have HAS := hide (five_aside (b := w.heap.size) (Aside.refl (w.heap.size) (w.heap.size + 1) wC) (Nat.le_refl _) (Nat.lt_succ_self _) (.int .i64 0) (.slice none 0 0) (.slice none 0 0) (.int .i64 0) (.int .i64 0))
 have HBF := hide (HB1.out.trans (HAS.out.below (B := w.heap.size) (Nat.le_refl _) (by omega)))
 rw [hwC] at d0 d1 p0 p1 p2 p3 p4 f0 f1 f2 f3 f4
 have HZC := hide hzC
 clear hzC
 cases hok : newOk q z with
 | false =>
  have HE : Hid (B = false) := by show _ = _; rw [HBV.out]; unfold nfOk; rw [hok]; rfl
  have HFE : Hid (fv = ⟨0,[],[],0,0⟩) := by show _ = _; rw [HFV.out]; unfold newF nfOk; rw [hok]; rfl
  go_wp2_with fail
  rw [<- hwC]
  refine bodyPost_ret (results_ct rfl rfl (run_loadVar_row _ _ _ _ _ _ _ HRS.out Tryz.underlying29 rfl (by kernel_rfl))) rfl ⟨.agg #[.int .i64 0,.slice none 0 0,.slice none 0 0,.int .i64 0,.int .i64 0],by rw [HE.out]; rfl,none,0,none,0,by rw [HFE.out]; rfl,⟨Nat.le_refl _,.inl ?_⟩,HBF.out,by rw [HFE.out]; exact Nat.le_refl _⟩
  rw [HFE.out]; exact ⟨rfl,rfl⟩
 | true =>
  go_upto_region 2 with fail
  rw [<- hwC]
  rw [<- hwC] at d0 d1 p0 p1 p2 p3 p4 f0 f1 f2 f3 f4
  clear hwC
  go_wp2_with fail
  refine (l1In_any n 1 64 wC).mono ?_
  rintro e w2 ⟨rfl,rfl⟩
  cases hin : inB n 1 64 with
  | false =>
   have HE : Hid (B = false) := by show _ = _; rw [HBV.out]; unfold nfOk; rw [hok,hin]; rfl
   have HFE : Hid (fv = ⟨0,[],[],0,0⟩) := by show _ = _; rw [HFV.out]; unfold newF nfOk; rw [hok,hin]; rfl
   go_wp2_with fail
   refine bodyPost_ret (results_ct rfl rfl (run_loadVar_row _ _ _ _ _ _ _ HRS.out Tryz.underlying29 rfl (by kernel_rfl))) rfl ⟨.agg #[.int .i64 0,.slice none 0 0,.slice none 0 0,.int .i64 0,.int .i64 0],by rw [HE.out]; rfl,none,0,none,0,by rw [HFE.out]; rfl,⟨Nat.le_refl _,.inl ?_⟩,HBF.out,by rw [HFE.out]; exact Nat.le_refl _⟩
   rw [HFE.out]; exact ⟨rfl,rfl⟩
  | true =>
   have hn : 1 <= n ∧ n <= 64 := by unfold inB at hin; simpa using hin
   obtain ⟨N,rfl⟩ : ∃ N : Nat,n = (N : Int) := ⟨n.toNat,by omega⟩
   have HE : Hid (B = true) := by show _ = _; rw [HBV.out]; unfold nfOk; rw [hok,hin]; rfl
   have HFE : Hid (fv = ⟨Z,Q,List.replicate N (-1,0),-1,0⟩) := by
    show _ = _
    have e1 : nfOk q z (N : Int) = true := by rw [<- HBV.out]; exact HE.out
    have e2 : newZ q z = z := by unfold newZ; rw [hok]; rfl
    rw [HFV.out,HZ.out,HQ.out,e2]; unfold newF; rw [e1,if_pos rfl,Int.toNat_natCast]
   have HQN := hide (HNE.out hok)
   have hN64 : N <= 64 := by omega
   have hN1 : 1 <= N := by omega
   clear HRS HAS HBF HNE hin hok hn
   obtain ⟨wF,hwF⟩ : ∃ wF,wF = wC.alloc (.cells #[.int .i64 Z,.slice p Q.length c,.slice none 0 0,.int .i64 (-1),.int .i64 0] 29) := ⟨_,rfl⟩
   have hzF : wF.heap.size = wC.heap.size + 1 := by rw [hwF]; simp
   have HBW : Hid (Below wC.heap.size wC wF) := by rw [hwF]; exact (Below.refl _ _).alloc (Nat.le_refl _) _
   have HF : Hid (wF.heap[wC.heap.size]? = some (.cells #[.int .i64 Z,.slice p Q.length c,.slice none 0 0,.int .i64 (-1),.int .i64 0] 29)) := by rw [hwF]; exact heap_new _ _
   have HZF := hide hzF
   clear hzF
   obtain ⟨X,hX⟩ : ∃ X,X = wC.heap.size := ⟨_,rfl⟩
   have HXE := hide hX
   go_upto_region 5 with fail
   rw [<- hwF]
   clear hwF p0 p1 p2 p3 p4 f0 f1 f2 f3 f4 d0 d1
   rw [<- hX]
   rw [<- hX] at HF
   clear hX
   go_loopw [2] (fun t wr => ∃ r k : Nat,k + r = N ∧ t = .int .i64 (r : Int) ∧ ∃ am cm,PlOwn (X + 1) wr (.slice am k cm) (List.replicate k (-1,0)) ∧ wr.heap[X]? = some (.cells #[.int .i64 Z,.slice p Q.length c,.slice am k cm,.int .i64 (-1),.int .i64 0] 29) ∧ Below X wF wr) (fun t _ => (intOf t).toNat)
   case atStart => exact ⟨N,0,by omega,rfl,none,0,⟨rfl,.inl ⟨rfl,rfl⟩⟩,HF.out,Below.refl _ _⟩
   case round =>
    obtain ⟨r,k,hkr,rfl,am,cm,hown,hf,hbel⟩ := hrel
    have HO := hide hown
    have HV := hide hf
    have HBL := hide hbel
    have hXl : X < wr.heap.size := (Array.getElem?_eq_some_iff.1 hf).1
    clear hown hf hbel HF
    by_cases hr : 0 < r
    ·have hr2 : (0 : Int) < (r : Int) := by omega
     obtain ⟨i0,hi0,hzz0,hzz1,hzz2⟩ := info_parts Tryz.infoPl9
     obtain ⟨y0,y1,y2,y3,y4⟩ := five_cells HV.out
     have HNX : Hid (some X ≠ (Value.slice am k cm).ownBlock) := fun e => by
      obtain ⟨cs,fz,h2⟩ := Go.Lib.ownsRow_kind HO.out X e.symm
      rw [HV.out] at h2
      simp only [Option.some.injEq,Obj.cells.injEq] at h2
      exact absurd h2.2.1 (by decide)
     go_wp2_with fail
     go_region_law (first
      | (refine step_append_lies _ (by rfl) _ _ _ (by rfl) (X + 1) 39 i0 (.agg #[.int .i64 0,.int .i64 0]) 2 16 Tryz.underlying27 hi0 hzz0 hzz1 hzz2 rfl (by decide) (.slice am k cm) k (plL (List.replicate k (-1,0))) (by rfl) HO5.out ⟨w4.heap.size,0,none⟩ 1 1 [.int .i64 (-1),.int .i64 0] (by rfl) rfl (two_news _ _ _ _) (two_oneI _ _) (by omega) (by unfold maxLen; omega) (by omega) (by simp; omega) (w4.heap.size + 1) (by simp) ?_; intro g' c' w6 hown6 hgr6 hat6 hlt6; have c6 := (hgr6.cell_far ⟨X,2,none⟩ (by simp; omega) HNX.out).trans z2; have f6 := (hgr6.frozen_far ⟨X,2,none⟩ (by simp; omega) HNX.out).trans l2; have HO6 := hide hown6; have HR6 := hide hgr6; clear hown6 hgr6 hat6)
      | (go_simp; go_at_call 69; refine (l9None_any _).mono ?_; rintro e w4 ⟨rfl,b4⟩; have B4 : Hid (Below wr.heap.size wr w4) := ⟨b4.os,b4.tape,b4.output,b4.size,b4.block⟩; have hs4 := B4.out.size; have V4 := hide (block_on HV.out B4.out); obtain ⟨x0,x1,x2,x3,x4⟩ := five_cells V4.out; have HBA4 := hide ((Below.refl w4.heap.size w4).alloc (Nat.le_refl _) (.cells #[.int .i64 (-1),.int .i64 0] 39)); have V5 := hide (block_on V4.out HBA4.out); obtain ⟨z0,z1,z2,z3,z4⟩ := five_cells V5.out; have l2 := four_frozen V5.out 2; have HO5 : Hid (World.ownsRow (w4.alloc (.cells #[.int .i64 (-1),.int .i64 0] 39)) (X + 1) 39 2 (.slice am k cm) k (plL (List.replicate k (-1,0)))) := (by have h9 := own_keepBy (own_keepBy HO.out (grown_below B4.out none) (fun k e => by cases e)) (grown_below HBA4.out none) (fun k e => by cases e); rw [List.length_replicate] at h9; exact h9); dsimp only))
     all_goals
      have HA1 := hide ((Aside.refl X (X + 1) w6).setCell (p := ⟨X,2,none⟩) (Nat.le_refl _) (Nat.lt_succ_self _) (.slice (some ⟨g',0,none⟩) (k + 1) c'))
      have HON : Hid (PlOwn (X + 1) (w6.setCell ⟨X,2,none⟩ (.slice (some ⟨g',0,none⟩) (k + 1) c')) (.slice (some ⟨g',0,none⟩) (k + 1) c') (List.replicate (k + 1) (-1,0))) := by
       have h9 := HO6.out
       rw [plL_snoc (List.replicate k (-1,0)) (-1,0),rep_snoc] at h9
       have h8 := own_aside2 h9 HA1.out (Nat.le_refl _)
       show World.ownsRow _ _ _ _ _ _ _
       rw [List.length_replicate]
       exact h8
      have HXN : Hid ((w6.setCell ⟨X,2,none⟩ (.slice (some ⟨g',0,none⟩) (k + 1) c')).heap[X]? = some (.cells #[.int .i64 Z,.slice p Q.length c,.slice (some ⟨g',0,none⟩) (k + 1) c',.int .i64 (-1),.int .i64 0] 29)) :=
       set_block ((HR6.out.block X (by simp; omega) HNX.out).trans V5.out) 2 _ (by simp)
      have HBN : Hid (Below X wF (w6.setCell ⟨X,2,none⟩ (.slice (some ⟨g',0,none⟩) (k + 1) c'))) :=
       (((HBL.out.trans (B4.out.mono (Nat.le_of_lt hXl))).trans (HBA4.out.mono (by omega))).trans (below_grown HO5.out HR6.out (by simp; omega))).setCell (p := ⟨X,2,none⟩) (Nat.le_refl _) _
      go_wp2_with fail
      exact ⟨⟨r - 1,k + 1,by omega,by rw [show ((r - 1 : Nat) : Int) = (r : Int) - 1 by omega],some ⟨g',0,none⟩,c',HON.out,HXN.out,HBN.out⟩,by simp [intOf]; omega⟩
    ·obtain rfl : r = 0 := by omega
     obtain rfl : k = N := by omega
     obtain ⟨gm,cm',e9,_⟩ := pl_some HO.out (by rw [List.length_replicate]; omega)
     simp only [Value.slice.injEq] at e9
     obtain ⟨rfl,e8,rfl⟩ := e9
     clear e8
     obtain ⟨hop,hg1,hg2⟩ := own_places_of HO.out
     have HOP := hide hop
     clear hop
     have hzC := HZC.out
     have hzF := HZF.out
     have hXE := HXE.out
     have KR : Hid (wr.heap[w.heap.size]? = some (.cells #[.int .i64 0,.slice none 0 0,.slice none 0 0,.int .i64 0,.int .i64 0] 29)) := (HBL.out.block _ (by omega)).trans (block_on K0.out HBW.out)
     have HRS := hide (five_set KR.out (.int .i64 Z) (.slice p Q.length c) (.slice (some ⟨gm,0,none⟩) k cm) (.int .i64 (-1)) (.int .i64 0))
     have HAS := hide (five_aside (b := w.heap.size) (Aside.refl (w.heap.size) (w.heap.size + 1) wr) (Nat.le_refl _) (Nat.lt_succ_self _) (.int .i64 Z) (.slice p Q.length c) (.slice (some ⟨gm,0,none⟩) k cm) (.int .i64 (-1)) (.int .i64 0))
     have hsr := HBL.out.size
     have HBF := hide (((below_here HB1.out HBW.out).trans (HBL.out.mono (show w.heap.size <= X by omega))).trans (HAS.out.below (B := w.heap.size) (Nat.le_refl _) (by omega)))
     have HOF := hide (own_of_ans (ps := List.replicate k (-1,0)) ((HAQ.out.later HBW.out (by omega)).later HBL.out (by omega)) HQN.out HOP.out (by omega) hg2 HNN.out)
     have HCAP := hide (pl_cap HO.out)
     obtain ⟨p0,p1,p2,p3,p4⟩ := five_cells KR.out
     have f0 := four_frozen KR.out 0
     have f1 := four_frozen KR.out 1
     have f2 := four_frozen KR.out 2
     have f3 := four_frozen KR.out 3
     have f4 := four_frozen KR.out 4
     obtain ⟨y0,y1,y2,y3,y4⟩ := five_cells HV.out
     clear hzC hzF hXE hkr
     simp only [show ((0 : Nat) : Int) = 0 from rfl]
     go_wp2_with fail
     have hzC := HZC.out
     have hzF := HZF.out
     have hXE := HXE.out
     refine bodyPost_ret (results_ct rfl rfl (run_loadVar_row _ _ _ _ _ _ _ HRS.out Tryz.underlying29 rfl (by kernel_rfl))) rfl ⟨.agg #[.int .i64 Z,.slice p Q.length c,.slice (some ⟨gm,0,none⟩) k cm,.int .i64 (-1),.int .i64 0],by rw [HE.out]; rfl,p,c,some ⟨gm,0,none⟩,cm,by rw [HFE.out]; unfold fvV; dsimp only; rw [List.length_replicate],?_,HBF.out,by rw [HFE.out]; exact HCAP.out⟩
     rw [HFE.out]
     exact (HOF.out.aside HAS.out (.inl (by omega))).wide (by omega) HAS.out.size (Nat.le_refl _)
end Go.Proofs.YtgjoepdfhadmcaaGreatDoor
