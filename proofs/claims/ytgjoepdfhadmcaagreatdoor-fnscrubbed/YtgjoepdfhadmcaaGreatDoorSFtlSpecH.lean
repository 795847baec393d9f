/- . -/
import Derived.Test.YtgjoepdfhadmcaaGreatDoorSFtlSpecE
import Derived.Test.YtgjoepdfhadmcaaGreatDoorSFtlMath
import Derived.Test.YtgjoepdfhadmcaaGreatDoorSChipAns
import Derived.Test.YtgjoepdfhadmcaaGreatDoorSFtlOwnP
namespace Go.Proofs.YtgjoepdfhadmcaaGreatDoor
open Go.RowKit
set_option linter.unusedVariables false
set_option maxRecDepth 20000
set_option maxHeartbeats 3200000 in
theorem specEnter_any (z : Int) (a : Option Addr) (n cap : Nat) (qs : List Sq) (am : Option Addr) (m cm : Nat) (ps : List Pl) (op st kd at_ sp : Int) (tx : ByteArray) (w : World) {lo hi lo' hi' : Nat} (h : Squares lo hi w a n qs) (hhi : hi <= w.heap.size) (hn : n <= 1048576) (hf : ∀ x ∈ qs,sqFits x) (hp : Places lo' hi' w am m ps) (hhi' : hi' <= w.heap.size) (hm : m <= 1048576) :
  Calls Tryz.prog 182 #[.agg #[.int .i64 z,.slice a n cap,.slice am m cm,.int .i64 op,.int .i64 st],.agg #[.int .i64 kd,.int .i64 at_,.int .i64 sp,.string tx]] w fun e w' => ∃ v,e = .returned (.tuple #[v,.bool (planR z qs ps op st kd at_ tx).isSome]) ∧ FtlAns w (entF z qs ps op st kd at_ tx) v w' := by
 obtain ⟨r,hr⟩ : ∃ r,r = planR z qs ps op st kd at_ tx := ⟨_,rfl⟩
 have HR := hide hr
 rw [<- hr]
 clear hr
 obtain ⟨fv,hfv⟩ : ∃ fv,fv = entF z qs ps op st kd at_ tx := ⟨_,rfl⟩
 have HFV := hide hfv
 rw [<- hfv]
 clear hfv
 obtain ⟨wA,hwA⟩ : ∃ wA,wA = ((w.alloc (.cells #[.int .i64 z,.slice a n cap,.slice am m cm,.int .i64 op,.int .i64 st] 29)).alloc (.cells #[.int .i64 kd,.int .i64 at_,.int .i64 sp,.string tx] 31)).alloc (.cells #[.int .i64 0,.slice none 0 0,.slice none 0 0,.int .i64 0,.int .i64 0] 29) := ⟨_,rfl⟩
 have hzA : wA.heap.size = w.heap.size + 1 + 1 + 1 := by rw [hwA]; simp
 have HBA : Hid (Below w.heap.size w wA) := by rw [hwA]; exact (((Below.refl _ _).alloc (Nat.le_refl _) _).alloc (by simp) _).alloc (by simp; omega) _
 have H0 : Hid (wA.heap[w.heap.size]? = some (.cells #[.int .i64 z,.slice a n cap,.slice am m cm,.int .i64 op,.int .i64 st] 29)) := by rw [hwA]; exact heap_old (heap_old (heap_new _ _))
 have H1 : Hid (wA.heap[w.heap.size + 1]? = some (.cells #[.int .i64 kd,.int .i64 at_,.int .i64 sp,.string tx] 31)) := by rw [hwA]; exact heap_old (heap_at (by simp))
 have H2 : Hid (wA.heap[w.heap.size + 1 + 1]? = some (.cells #[.int .i64 0,.slice none 0 0,.slice none 0 0,.int .i64 0,.int .i64 0] 29)) := by rw [hwA]; exact heap_at (by simp)
 have HSQ := hide (h.later HBA.out hhi)
 have HPL := hide (hp.later HBA.out hhi')
 have HL := hide h.1
 have HLP := hide hp.1
 have HF := hide hf
 clear h hf hp
 obtain ⟨c0,c1,c2,c3,c4⟩ := five_cells H0.out
 go_enter Tryz.func182,Tryz.ntmps182
 go_wp2_with fail
 rw [<- hwA]
 clear hwA
 refine (specFtlOk_any z a n cap qs am m cm ps op st wA HSQ.out (by omega) hn HF.out HPL.out (by omega) hm).mono ?_
 rintro e w1 ⟨rfl,b1⟩
 have K0 := hide (block_on H0.out b1)
 have K1 := hide (block_on H1.out b1)
 have K2 := hide (block_on H2.out b1)
 have HS1 := hide (HSQ.out.later b1 (by omega))
 have HP1 := hide (HPL.out.later b1 (by omega))
 have HB1 := hide (below_here HBA.out b1)
 have hs1 := b1.size
 clear b1 H0 H1 H2 HSQ HPL HBA c0 c1 c2 c3 c4
 cases hok : ftlOk z qs ps op st with
 | false =>
  have HE : Hid (r = none) := by show _ = _; rw [HR.out]; unfold planR; rw [hok]; rfl
  have HFE : Hid (fv = ⟨0,[],[],0,0⟩) := by show _ = _; rw [HFV.out]; unfold entF; rw [hok]; rfl
  obtain ⟨p0,p1,p2,p3,p4⟩ := five_cells K2.out
  have f0 := four_frozen K2.out 0
  have f1 := four_frozen K2.out 1
  have f2 := four_frozen K2.out 2
  have f3 := four_frozen K2.out 3
  have f4 := four_frozen K2.out 4
  have HRS := hide (five_set K2.out (.int .i64 0) (.slice none 0 0) (.slice none 0 0) (.int .i64 0) (.int .i64 0))
  have HAS := hide (five_aside (b := w.heap.size + 1 + 1) (Aside.refl (w.heap.size + 1 + 1) (w.heap.size + 1 + 1 + 1) w1) (Nat.le_refl _) (Nat.lt_succ_self _) (.int .i64 0) (.slice none 0 0) (.slice none 0 0) (.int .i64 0) (.int .i64 0))
  have HBF := hide (HB1.out.trans (HAS.out.below (B := w.heap.size) (by omega) (by omega)))
  go_wp2_with fail
  refine bodyPost_ret (results_ct rfl rfl (run_loadVar_row _ _ _ _ _ _ _ HRS.out Tryz.underlying29 rfl (by kernel_rfl))) rfl ⟨.agg #[.int .i64 0,.slice none 0 0,.slice none 0 0,.int .i64 0,.int .i64 0],by rw [HE.out]; rfl,none,0,none,0,by rw [HFE.out]; rfl,⟨Nat.le_refl _,.inl ?_⟩,HBF.out,by rw [HFE.out]; exact Nat.le_refl _⟩
  rw [HFE.out]; exact ⟨rfl,rfl⟩
 | true =>
  have HE : Hid (r = enterK z ⟨qs,ps,op,[]⟩ st kd at_ tx) := by show _ = _; rw [HR.out]; unfold planR; rw [hok]; rfl
  have HFE : Hid (fv = (match enterK z ⟨qs,ps,op,[]⟩ st kd at_ tx with | none => ⟨z,qs,ps,op,st⟩ | some s => ⟨z,s.qs,s.ps,s.op,st + 1⟩)) := by show _ = _; rw [HFV.out]; unfold entF; rw [hok]; rfl
  have HK := hide (kok_of hok [])
  obtain ⟨hmo,_,_,hst0,hst1,_,_⟩ := ftlOk_parts hok
  have hm64 : m <= 64 := by have := (mapOk_len hmo).2; rw [HLP.out] at this; exact this
  have hm1 : 1 <= m := by have := (mapOk_len hmo).1; rw [HLP.out] at this; exact this
  have HCK := hide (mapOk_chip hmo)
  clear hok hmo HR HFV
  obtain ⟨wJ,hwJ⟩ : ∃ wJ,wJ = (w1.alloc (.cells #[] 98)).alloc (.cells #[.slice (some ⟨w1.heap.size,0,none⟩) 0 0] 91) := ⟨_,rfl⟩
  have hzJ : wJ.heap.size = w1.heap.size + 1 + 1 := by rw [hwJ]; simp
  have HBJ : Hid (Below w1.heap.size w1 wJ) := by rw [hwJ]; exact ((Below.refl _ _).alloc (Nat.le_refl _) _).alloc (by simp) _
  have J0 : Hid (wJ.heap[w1.heap.size]? = some (.cells #[] 98)) := by rw [hwJ]; exact heap_old (heap_new _ _)
  have J1 : Hid (wJ.heap[w1.heap.size + 1]? = some (.cells #[.slice (some ⟨w1.heap.size,0,none⟩) 0 0] 91)) := by rw [hwJ]; exact heap_at (by simp)
  have HJ1 : Hid (JbOwn (w.heap.size + 3) wJ (.slice (some ⟨w1.heap.size,0,none⟩) 0 0) []) := ⟨rfl,.inr ⟨w1.heap.size,0,#[],rfl,by omega,J0.out,Nat.le_refl _,Nat.zero_le _,rfl,rfl⟩⟩
  have L0 := hide (block_on K0.out HBJ.out)
  have L1 := hide (block_on K1.out HBJ.out)
  have L2 := hide (block_on K2.out HBJ.out)
  have HSJ := hide (HS1.out.later HBJ.out (by omega))
  have HPJ := hide (HP1.out.later HBJ.out (by omega))
  have HB2 := hide (below_here HB1.out HBJ.out)
  obtain ⟨c0,c1,c2,c3,c4⟩ := five_cells L0.out
  rw [hwJ] at c0 c1 c2 c3 c4
  have HZJ := hide hzJ
  clear K0 K1 K2 HS1 HP1 HB1 hzJ
  go_wp2_with fail
  rw [<- hwJ]
  clear hwJ c0 c1 c2 c3 c4
  have hzJ := HZJ.out
  refine (l10Copy_any z a n cap qs am m cm ps op st wJ HSJ.out (by omega) HCK.out HPJ.out (by omega) hm1 hm64).mono ?_
  rintro e w2 ⟨g,c,gm,cm',A,C,rfl,hG,hP,hgm,b2⟩
  obtain ⟨wX,hwX⟩ : ∃ wX,wX = w2.alloc (.cells #[.int .i64 z,.slice (some ⟨g,0,none⟩) n c,.slice (some ⟨gm,0,none⟩) m cm',.int .i64 op,.int .i64 st] 29) := ⟨_,rfl⟩
  have hzX : wX.heap.size = w2.heap.size + 1 := by rw [hwX]; simp
  have HBX : Hid (Below w2.heap.size w2 wX) := by rw [hwX]; exact (Below.refl _ _).alloc (Nat.le_refl _) _
  have HX : Hid (wX.heap[w2.heap.size]? = some (.cells #[.int .i64 z,.slice (some ⟨g,0,none⟩) n c,.slice (some ⟨gm,0,none⟩) m cm',.int .i64 op,.int .i64 st] 29)) := by rw [hwX]; exact heap_new _ _
  have hs2 := b2.size
  have hg1 := hG.atG
  have hg2 : g < w2.heap.size := by have := hG.row.1; omega
  have hle : ps.length = m := HLP.out
  have HFA : Hid (FtlAt (w.heap.size + 3) wX w2.heap.size (w1.heap.size + 1) z st n g c gm cm' A C (.slice (some ⟨w1.heap.size,0,none⟩) 0 0) ⟨qs,ps,op,[]⟩) :=
   ⟨⟨(hG.mono (by omega)).later HBX.out,own_keepBy (hP.mono (by omega)) (grown_below HBX.out none) (fun k e => by cases e),own_keepBy (own_keepBy HJ1.out (grown_below b2 none) (fun k e => by cases e)) (grown_below HBX.out none) (fun k e => by cases e),hgm,fun e => by simp [Value.ownBlock] at e; omega⟩,
    by dsimp only; rw [hle]; exact HX.out,block_on (block_on J1.out b2) HBX.out,by omega,by omega,by omega,by omega⟩
  have M0 := hide (block_on (block_on L0.out b2) HBX.out)
  have M1 := hide (block_on (block_on L1.out b2) HBX.out)
  have M2 := hide (block_on (block_on L2.out b2) HBX.out)
  have HSX := hide ((HSJ.out.later b2 (by omega)).later HBX.out (by omega))
  have HPX := hide ((HPJ.out.later b2 (by omega)).later HBX.out (by omega))
  have HB3 := hide (below_here (below_here HB2.out b2) HBX.out)
  clear hG hP b2 L0 L1 L2 HSJ HPJ HB2
  obtain ⟨p0,p1,p2,p3⟩ := four_cells M1.out
  rw [hwX] at p0 p1 p2 p3
  have HZX := hide hzX
  clear hzX
  go_wp2_with fail
  rw [<- hwX]
  clear hwX p0 p1 p2 p3
  have hzX := HZX.out
  refine (l10Enter_any (w.heap.size + 3) w2.heap.size (w1.heap.size + 1) z st n g c gm cm' A C _ ⟨qs,ps,op,[]⟩ kd at_ sp tx wX HFA.out (by omega) HK.out (by show 0 <= _; omega) ⟨hst0,hst1⟩).mono ?_
  rintro e w3 ⟨rfl,hf3,hk3⟩
  have HF3 := hide (HB3.out.trans (hf3.below.mono (show w.heap.size <= w.heap.size + 3 by omega)))
  have hs3 := hf3.below.size
  have HK3 := hide hk3
  have N0 : Hid (w3.heap[w.heap.size]? = some (.cells #[.int .i64 z,.slice a n cap,.slice am m cm,.int .i64 op,.int .i64 st] 29)) := (hf3.below.block _ (by omega)).trans M0.out
  have N2 : Hid (w3.heap[w.heap.size + 1 + 1]? = some (.cells #[.int .i64 0,.slice none 0 0,.slice none 0 0,.int .i64 0,.int .i64 0] 29)) := (hf3.below.block _ (by omega)).trans M2.out
  have HS3 := hide (HSX.out.later hf3.below (by omega))
  have HP3 := hide (HPX.out.later hf3.below (by omega))
  clear hf3 hk3 M0 M1 M2 HSX HPX
  rw [<- HE.out] at HK3 HFE
  rw [<- HE.out]
  cases hrr : r with
  | none =>
   have HRR := hide hrr
   have HFN : Hid (fv = ⟨z,qs,ps,op,st⟩) := by show _ = _; rw [HFE.out,hrr]
   clear hrr HK3
   obtain ⟨c0,c1,c2,c3,c4⟩ := five_cells N0.out
   rw [Option.isSome_none]
   go_wp2_with fail
   refine (l10Copy_any z a n cap qs am m cm ps op st w3 HS3.out (by omega) HCK.out HP3.out (by omega) hm1 hm64).mono ?_
   rintro e w4 ⟨g',c',gm',cm2,A',C',rfl,hG',hP',hgm',b4⟩
   have HO4 := hide (own_of_parts hG' hP' hgm')
   have HCP4 := hide (pl_cap hP')
   have O2 := hide (block_on N2.out b4)
   have HB4 := hide (below_here HF3.out b4)
   have hs4 := b4.size
   clear hG' hP' b4 c0 c1 c2 c3 c4
   obtain ⟨p0,p1,p2,p3,p4⟩ := five_cells O2.out
   have f0 := four_frozen O2.out 0
   have f1 := four_frozen O2.out 1
   have f2 := four_frozen O2.out 2
   have f3 := four_frozen O2.out 3
   have f4 := four_frozen O2.out 4
   have HRS := hide (five_set O2.out (.int .i64 z) (.slice (some ⟨g',0,none⟩) n c') (.slice (some ⟨gm',0,none⟩) m cm2) (.int .i64 op) (.int .i64 st))
   have HAS := hide (five_aside (b := w.heap.size + 1 + 1) (Aside.refl (w.heap.size + 1 + 1) (w.heap.size + 1 + 1 + 1) w4) (Nat.le_refl _) (Nat.lt_succ_self _) (.int .i64 z) (.slice (some ⟨g',0,none⟩) n c') (.slice (some ⟨gm',0,none⟩) m cm2) (.int .i64 op) (.int .i64 st))
   have HBF := hide (HB4.out.trans (HAS.out.below (B := w.heap.size) (by omega) (by omega)))
   go_wp2_with fail
   refine bodyPost_ret (results_ct rfl rfl (run_loadVar_row _ _ _ _ _ _ _ HRS.out Tryz.underlying29 rfl (by kernel_rfl))) rfl ⟨.agg #[.int .i64 z,.slice (some ⟨g',0,none⟩) n c',.slice (some ⟨gm',0,none⟩) m cm2,.int .i64 op,.int .i64 st],by rw [HRR.out]; rfl,some ⟨g',0,none⟩,c',some ⟨gm',0,none⟩,cm2,by rw [HFN.out,<- HL.out,<- HLP.out]; rfl,?_,HBF.out,by rw [HFN.out]; exact HCP4.out⟩
   rw [HFN.out]
   exact (HO4.out.aside HAS.out (.inl (by omega))).wide (by omega) HAS.out.size (Nat.le_refl _)
  | some s' =>
   have HRR := hide hrr
   have HFN : Hid (fv = ⟨z,s'.qs,s'.ps,s'.op,st + 1⟩) := by show _ = _; rw [HFE.out,hrr]
   obtain ⟨A',C',V',hA'⟩ := HK3.out s' hrr
   have HO4 := hide (own_of_kp hA'.mem)
   have HCP4 := hide (pl_cap hA'.mem.pl)
   have HLN := hide hA'.mem.sq.len
   obtain ⟨c0,c1,c2,c3,c4⟩ := five_cells hA'.ftl
   clear hrr HK3 hA'
   obtain ⟨p0,p1,p2,p3,p4⟩ := five_cells N2.out
   have f0 := four_frozen N2.out 0
   have f1 := four_frozen N2.out 1
   have f2 := four_frozen N2.out 2
   have f3 := four_frozen N2.out 3
   have f4 := four_frozen N2.out 4
   have HRS := hide (five_set N2.out (.int .i64 z) (.slice (some ⟨g,0,none⟩) n c) (.slice (some ⟨gm,0,none⟩) s'.ps.length cm') (.int .i64 s'.op) (.int .i64 (st + 1)))
   have HAS := hide (five_aside (b := w.heap.size + 1 + 1) (Aside.refl (w.heap.size + 1 + 1) (w.heap.size + 1 + 1 + 1) w3) (Nat.le_refl _) (Nat.lt_succ_self _) (.int .i64 z) (.slice (some ⟨g,0,none⟩) n c) (.slice (some ⟨gm,0,none⟩) s'.ps.length cm') (.int .i64 s'.op) (.int .i64 (st + 1)))
   have HBF := hide (HF3.out.trans (HAS.out.below (B := w.heap.size) (by omega) (by omega)))
   rw [Option.isSome_some]
   go_wp2_with fail
   refine bodyPost_ret (results_ct rfl rfl (run_loadVar_row _ _ _ _ _ _ _ HRS.out Tryz.underlying29 rfl (by kernel_rfl))) rfl ⟨.agg #[.int .i64 z,.slice (some ⟨g,0,none⟩) n c,.slice (some ⟨gm,0,none⟩) s'.ps.length cm',.int .i64 s'.op,.int .i64 (st + 1)],by rw [HRR.out]; rfl,some ⟨g,0,none⟩,c,some ⟨gm,0,none⟩,cm',by rw [HFN.out,<- HLN.out]; rfl,?_,HBF.out,by rw [HFN.out]; exact HCP4.out⟩
   rw [HFN.out]
   exact (HO4.out.aside HAS.out (.inl (by omega))).wide (by omega) HAS.out.size (Nat.le_refl _)
end Go.Proofs.YtgjoepdfhadmcaaGreatDoor
