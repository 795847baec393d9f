/- . -/
import Derived.Test.YtdjifickdcnacaaDoorNNoteImplB
import Derived.Test.YtdjifickdcnacaaDoorNJoinLay
import Derived.Test.YtdjifickdcnacaaDoorNCheckImpl
import Derived.Lib.QuietBelow
import Derived.BigQuiet
import Derived.Laws.EntriesVeiled
namespace Go.Proofs.YtdjifickdcnacaaDoor
open Go.RowKit
set_option linter.unusedVariables false
set_option linter.unusedSimpArgs false
set_option maxRecDepth 20000
theorem joinTail_dec (ns : List Nat) : Lib.joinTail [32] (ns.map Lib.decDigits) = tailN ns := by
 unfold Lib.joinTail tailN
 rw [List.map_map]
 rfl
theorem join_line (n : Nat) (r : List Nat) : Lib.join (((n :: r).map numB).map fun y => y.data.toList) [32] = lineN (n :: r) := by
 have e : (((n :: r).map numB).map fun y => y.data.toList) = Lib.decDigits n :: r.map Lib.decDigits := by
  rw [List.map_map]
  exact List.map_congr_left (l := n :: r) fun x _ => mkB_list _
 rw [e,Lib.join_cons,joinTail_dec]
 rfl
theorem join_body (x : ByteArray) (vs : List ByteArray) : Lib.join ((x :: vs).map fun y => y.data.toList) [] = x.data.toList ++ (vs.map fun v => v.data.toList).flatten := by
 rw [List.map_cons,Lib.join_cons]
 simp [Lib.joinTail]
 rfl
theorem numB_small {n : Nat} (h : n <= 1000000) : (numB n).size <= 100 := by have := numB_len h; omega
set_option maxHeartbeats 6400000 in
theorem implShowNote_any (k tt e s a : Int) (tx : ByteArray) (vs : List ByteArray) (av : Option Addr) (n cap : Nat) (w : World) {lo hi : Nat} (h : Texts lo hi w av n vs) (hn : n <= 1048576) (hts : ∀ y ∈ vs,y.size <= 1048576) (hx : tx.size <= maxLen) (hP : Pow w) :
  Calls Tryd.prog 8 #[.agg #[.int .i64 k,.int .i64 tt,.int .i64 e,.int .i64 s,.int .i64 a,.string tx,.slice av n cap]] w fun r w' => r = .returned (.string (showNt ⟨k,tt,e,s,a,tx,vs⟩)) ∧ Below w.heap.size w w' := by
 obtain ⟨wA,hwA⟩ : ∃ wA,wA = w.alloc (.cells #[.int .i64 k,.int .i64 tt,.int .i64 e,.int .i64 s,.int .i64 a,.string tx,.slice av n cap] 26) := ⟨_,rfl⟩
 have HBA : Hid (Below w.heap.size w wA) := by rw [hwA]; exact (Below.refl _ _).alloc (Nat.le_refl _) _
 have H0 : Hid (wA.heap[w.heap.size]? = some (.cells #[.int .i64 k,.int .i64 tt,.int .i64 e,.int .i64 s,.int .i64 a,.string tx,.slice av n cap] 26)) := by rw [hwA]; exact heap_new _ _
 have HT := hide (h.later HBA.out h.2.1)
 have HL := hide h.1
 have HTS := hide hts
 have HP := hide hP
 clear h hts hP
 obtain ⟨c0,c1,c2,c3,c4,c5,c6⟩ := note_cells H0.out
 go_enter Tryd.func8,Tryd.ntmps8
 go_upto_region 1 with fail
 rw [<- hwA]
 clear hwA
 go_wp2_with fail
 refine (implNoteOk_any k tt e s a tx vs av n cap wA HT.out hn HTS.out hx).mono ?_
 cases hok : noteOk ⟨k,tt,e,s,a,tx,vs⟩
 ·have HE : Hid (showNt ⟨k,tt,e,s,a,tx,vs⟩ = ⟨#[]⟩) := by show _ = _; unfold showNt; rw [hok]; rfl
  rintro r w1 ⟨rfl,b1⟩
  have HB1 := hide (below_here HBA.out b1)
  clear b1 c0 c1 c2 c3 c4 c5 c6
  go_wp2_with fail
  go_ret
  exact ⟨by rw [HE.out]; rfl,HB1.out⟩
 ·obtain ⟨⟨hk1,hk2⟩,⟨ht1,ht2⟩,⟨he1,he2⟩,⟨hs1,hs2⟩,⟨ha1,ha2⟩,hx24,hv64,hvs⟩ := noteOk_in hok
  obtain ⟨K,rfl⟩ : ∃ K : Nat,k = (K : Int) := ⟨k.toNat,by omega⟩
  obtain ⟨U,rfl⟩ : ∃ U : Nat,tt = (U : Int) := ⟨tt.toNat,by omega⟩
  obtain ⟨E,rfl⟩ : ∃ E : Nat,e = (E : Int) := ⟨e.toNat,by omega⟩
  obtain ⟨S,rfl⟩ : ∃ S : Nat,s = (S : Int) := ⟨s.toNat,by omega⟩
  obtain ⟨A,rfl⟩ : ∃ A : Nat,a = (A : Int) := ⟨a.toNat,by omega⟩
  rw [HL.out] at hv64 hvs
  have HVS := hide hvs
  have HE : Hid (showNt ⟨K,U,E,S,A,tx,vs⟩ = checked (mkB (lineN (K :: ([U,E,S,A,tx.size,n] ++ vs.map ByteArray.size)) ++ 10 :: bodyT ⟨K,U,E,S,A,tx,vs⟩))) := by
   show _ = _
   rw [show_list hok]
   unfold lineT numsT
   simp only [Int.toNat_natCast,HL.out]
  clear hvs hok
  rintro r w1 ⟨rfl,b1⟩
  have HB1 := hide (below_here HBA.out b1)
  have H1 := hide (block_on H0.out b1)
  have HT1 := hide (HT.out.later b1 HT.out.2.1)
  have HP1 := hide (HP.out.here HB1.out)
  clear b1 c0 c1 c2 c3 c4 c5 c6 H0 HT HBA HP
  obtain ⟨c0,c1,c2,c3,c4,c5,c6⟩ := note_cells H1.out
  have hmf : ∀ (fn : Fn) (first cap : Array Value) (w : World),(Instr.makeFunc fn first cap).run Tryd.prog w = .ok (.func fn first cap) w := fun _ _ _ _ => rfl
  obtain ⟨W5,hW5⟩ : ∃ W5,W5 = ((((w1.alloc (.cells #[] 9)).alloc (.cells #[] 9)).alloc (.cells #[.slice (some ⟨w1.heap.size,0,none⟩) 0 0] 24)).alloc (.cells #[.slice (some ⟨w1.heap.size + 1,0,none⟩) 0 0] 24)).alloc (.cells #[.func (.func 47) #[] #[.pointer (some ⟨w1.heap.size + 1 + 1,0,none⟩)]] 66) := ⟨_,rfl⟩
  have hz5 : W5.heap.size = w1.heap.size + 5 := by rw [hW5]; simp
  have HB5 : Hid (Below w1.heap.size w1 W5) := by rw [hW5]; exact (((((Below.refl _ _).alloc (Nat.le_refl _) _).alloc (by simp) _).alloc (by simp; omega) _).alloc (by simp; omega) _).alloc (by simp; omega) _
  have HS0 : Hid (W5.heap[w1.heap.size]? = some (.cells #[] 9)) := by rw [hW5]; exact heap_old (heap_old (heap_old (heap_old (heap_new _ _))))
  have HS1 : Hid (W5.heap[w1.heap.size + 1]? = some (.cells #[] 9)) := by rw [hW5]; exact heap_old (heap_old (heap_old (heap_at (by simp))))
  have HPW : Hid (W5.heap[w1.heap.size + 1 + 1]? = some (.cells #[.slice (some ⟨w1.heap.size,0,none⟩) 0 0] 24)) := by rw [hW5]; exact heap_old (heap_old (heap_at (by simp)))
  have HPT : Hid (W5.heap[w1.heap.size + 1 + 1 + 1]? = some (.cells #[.slice (some ⟨w1.heap.size + 1,0,none⟩) 0 0] 24)) := by rw [hW5]; exact heap_old (heap_at (by simp))
  have HPF : Hid (W5.heap[w1.heap.size + 1 + 1 + 1 + 1]? = some (.cells #[.func (.func 47) #[] #[.pointer (some ⟨w1.heap.size + 1 + 1,0,none⟩)]] 66)) := by rw [hW5]; exact heap_at (by simp)
  go_upto_region 6 with fail
  rw [<- hW5]
  clear hW5 c0 c1 c2 c3 c4 c5 c6
  have K1 := hide (block_on H1.out HB5.out)
  obtain ⟨c0,c1,c2,c3,c4,c5,c6⟩ := note_cells K1.out
  have HDU : Hid (Duo w1.heap.size (w1.heap.size + 1 + 1) (w1.heap.size + 1 + 1 + 1) [] [] W5) := ⟨_,_,HPW.out,HPT.out,⟨rfl,.inr ⟨w1.heap.size,0,#[],rfl,Nat.le_refl _,HS0.out,Nat.le_refl _,Nat.zero_le _,rfl,rfl⟩⟩,⟨rfl,.inr ⟨w1.heap.size + 1,0,#[],rfl,by omega,HS1.out,Nat.le_refl _,Nat.zero_le _,rfl,rfl⟩⟩,fun k e1 e2 => by
   have e1' : some w1.heap.size = some k := e1
   have e2' : some (w1.heap.size + 1) = some k := e2
   simp only [Option.some.injEq] at e1' e2'
   omega,by omega,by omega,by omega⟩
  clear HS0 HS1 HPW HPT
  obtain ⟨W6,hW6⟩ : ∃ W6,W6 = W5.alloc (.cells #[.int .i64 (K : Int),.int .i64 (U : Int),.int .i64 (E : Int),.int .i64 (S : Int),.int .i64 (A : Int)] 2) := ⟨_,rfl⟩
  have hz6 : W6.heap.size = w1.heap.size + 6 := by rw [hW6]; simp; omega
  have hb6 : Below W5.heap.size W5 W6 := by rw [hW6]; exact (Below.refl _ _).alloc (Nat.le_refl _) _
  have HI6 : Hid (W6.heap[W5.heap.size]? = some (.cells #[.int .i64 (K : Int),.int .i64 (U : Int),.int .i64 (E : Int),.int .i64 (S : Int),.int .i64 (A : Int)] 2)) := by rw [hW6]; exact heap_new _ _
  have HB6 := hide (below_here HB5.out hb6)
  have HF6 := hide (block_on HPF.out hb6)
  have HD6 := hide (HDU.out.on hb6)
  clear HB5 HPF HDU hb6
  have HZ5 := hide hz5
  have HZ6 := hide hz6
  clear hz5 hz6
  go_upto_region 7 with fail
  obtain ⟨B,hB⟩ : ∃ B,B = w1.heap.size := ⟨_,rfl⟩
  obtain ⟨pw,hpw⟩ : ∃ pw,pw = w1.heap.size + 1 + 1 := ⟨_,rfl⟩
  obtain ⟨pt,hpt⟩ : ∃ pt,pt = w1.heap.size + 1 + 1 + 1 := ⟨_,rfl⟩
  obtain ⟨pf,hpf⟩ : ∃ pf,pf = w1.heap.size + 1 + 1 + 1 + 1 := ⟨_,rfl⟩
  obtain ⟨bi,hbi⟩ : ∃ bi,bi = W5.heap.size := ⟨_,rfl⟩
  rw [<- hW6,<- hpf,<- hpt,<- hpw,<- hbi]
  rw [<- hpt,<- hpw,<- hB] at HD6
  rw [<- hpf,<- hpw] at HF6
  rw [<- hbi] at HI6
  have HNE : Hid (pf ≠ pw ∧ pf ≠ pt ∧ bi ≠ pw ∧ bi ≠ pt) := by have := HZ5.out; exact ⟨by omega,by omega,by omega,by omega⟩
  have HBB : Hid (B = w1.heap.size) := hB
  clear hW6 hpw hpt hpf hbi HZ5 HZ6 c0 c1 c2 c3 c4 c5 c6 hmf K1 hB
  -- what is known of any world behind
  have HK : ∀ W,Hid (Duof B pw pt W6 W -> W.heap[pf]? = some (.cells #[.func (.func 47) #[] #[.pointer (some ⟨pw,0,none⟩)]] 66) ∧ Below w1.heap.size w1 W) := fun W hd => ⟨hd.other _ _ _ _ HNE.out.1 HNE.out.2.1 (by decide) HF6.out,HB6.out.trans (by rw [<- HBB.out]; exact hd.below)⟩
  obtain ⟨L5,hL5⟩ : ∃ L5 : List Nat,L5 = [K,U,E,S,A] := ⟨_,rfl⟩
  have HL5 : Hid (L5.length = 5 ∧ (∀ x ∈ L5,x <= 1000000) ∧ ∀ W,Duof B pw pt W6 W -> ∀ i,i < 5 -> W.cell? ⟨bi,i,none⟩ = some (.int .i64 ((L5.getD i 0 : Nat) : Int))) := by
   rw [hL5]
   refine ⟨rfl,fun x hx => ?_,fun W hd i hi => ?_⟩
   ·simp only [List.mem_cons,List.not_mem_nil,or_false] at hx
    rcases hx with rfl | rfl | rfl | rfl | rfl <;> omega
   ·have := hd.other _ _ _ _ HNE.out.2.2.1 HNE.out.2.2.2 (by decide) HI6.out
    match i,hi with
    | 0,_ => simp [World.cell?,this]
    | 1,_ => simp [World.cell?,this]
    | 2,_ => simp [World.cell?,this]
    | 3,_ => simp [World.cell?,this]
    | 4,_ => simp [World.cell?,this]
  have HL5E := hide hL5
  clear hL5
  go_loopw [30] (fun i wr => ∃ j : Nat,j <= 5 ∧ i = .int .i64 (j : Int) ∧ Duo B pw pt ((L5.take j).map numB) [] wr ∧ Duof B pw pt W6 wr) (fun i _ => 5 - (intOf i).toNat)
  case atStart => exact ⟨0,by omega,rfl,HD6.out,Duof.refl _ _ _ _⟩
  case round =>
   obtain ⟨j,hj,rfl,hdu,hdf⟩ := hrel
   have HDU := hide hdu
   have HDF := hide hdf
   clear hdu hdf
   by_cases hj5 : j < 5
   ·obtain ⟨hpf1,hbw⟩ := (HK wr).out HDF.out
    have c0 := note_one hpf1
    have c1 := HL5.out.2.2 wr HDF.out j hj5
    have hg : L5.getD j 0 <= 1000000 := HL5.out.2.1 _ (by rw [List.getD_eq_getElem?_getD,List.getElem?_eq_getElem (by rw [HL5.out.1]; exact hj5)]; exact List.getElem_mem _)
    have HTK : Hid ((L5.take (j + 1)).map numB = (L5.take j).map numB ++ [numB (L5.getD j 0)]) := by
     show _ = _
     rw [List.take_add_one,List.map_append,List.getD_eq_getElem?_getD,List.getElem?_eq_getElem (by rw [HL5.out.1]; exact hj5)]
     rfl
    have HP2 := hide (HP1.out.here hbw)
    have hlen : ((L5.take j).map numB).length <= 1000 := by rw [List.length_map,List.length_take]; omega
    generalize L5.getD j 0 = v at *
    clear hpf1 hbw
    go_wp2_with fail
    refine (number_any v hg HDU.out HP2.out hlen).mono ?_
    rintro r w2 ⟨⟨u,rfl⟩,hd2,hf2⟩
    have HD2 := hide hd2
    have HF2 := hide (HDF.out.trans hf2)
    clear hd2 hf2 c0 c1
    go_wp2_with fail
    go_roundw
    case rel => exact ⟨j + 1,by omega,by go_num,by rw [HTK.out]; exact HD2.out,HF2.out⟩
    case measure => simp [intOf]; omega
   ·obtain rfl : j = 5 := by omega
    rw [List.take_of_length_le (by rw [HL5.out.1]; exact Nat.le_refl _)] at HDU
    obtain ⟨hpf1,hbw⟩ := (HK wr).out HDF.out
    have K2 := hide (block_on H1.out hbw)
    have HP2 := hide (HP1.out.here hbw)
    obtain ⟨c0,c1,c2,c3,c4,c5,c6⟩ := note_cells K2.out
    have hll : (L5.map numB).length <= 100 := by rw [List.length_map,HL5.out.1]; omega
    have HPF1 := hide hpf1
    clear hpf1 hbw
    go_wp2_with fail
    refine (text_any tx hx24 HDU.out HPF1.out ⟨HNE.out.1,HNE.out.2.1⟩ HP2.out (by omega) (by simp)).mono ?_
    rintro r w2 ⟨⟨u,rfl⟩,hd2,hf2⟩
    have HD2 := hide hd2
    have HF2 := hide (HDF.out.trans hf2)
    clear hd2 hf2 c0 c1 c2 c3 c4 c5 c6 HPF1 HDU HDF HP2 K2
    obtain ⟨hpf2,hbw2⟩ := (HK w2).out HF2.out
    have K2 := hide (block_on H1.out hbw2)
    have HP2 := hide (HP1.out.here hbw2)
    have cf := note_one hpf2
    obtain ⟨c0,c1,c2,c3,c4,c5,c6⟩ := note_cells K2.out
    clear hpf2 hbw2
    go_wp2_with fail
    refine (number_any n (by omega) HD2.out HP2.out (by simp at hll ⊢; omega)).mono ?_
    rintro r w3 ⟨⟨u,rfl⟩,hd3,hf3⟩
    have HD3 := hide hd3
    have HF3 := hide (HF2.out.trans hf3)
    clear hd3 hf3 c0 c1 c2 c3 c4 c5 c6 cf HD2 HF2 HP2 K2
    obtain ⟨_,hbw3⟩ := (HK w3).out HF3.out
    have K3 := hide (block_on H1.out hbw3)
    obtain ⟨c0,c1,c2,c3,c4,c5,c6⟩ := note_cells K3.out
    clear hbw3
    obtain ⟨H7,hH7⟩ : ∃ H7,H7 = L5.map numB ++ [numB tx.size] ++ [numB n] := ⟨_,rfl⟩
    rw [<- hH7] at HD3
    have hl7 : H7.length = 7 := by rw [hH7]; simp [HL5.out.1]
    have HH7 := hide hH7
    clear hH7
    go_upto_region 14 with fail
    clear c0 c1 c2 c3 c4 c5 c6 K3
    go_loopw [50] (fun i wr => ∃ j : Nat,j <= n ∧ i = .int .i64 (j : Int) ∧ Duo B pw pt (H7 ++ (vs.take j).map (fun y => numB y.size)) (tx :: vs.take j) wr ∧ Duof B pw pt W6 wr) (fun i _ => n - (intOf i).toNat)
    case atStart => exact ⟨0,Nat.zero_le _,rfl,by simpa using HD3.out,HF3.out⟩
    case round =>
     obtain ⟨j,hj,rfl,hdu,hdf⟩ := hrel
     have HDU := hide hdu
     have HDF := hide hdf
     clear hdu hdf HD3 HF3
     obtain ⟨hpf1,hbw⟩ := (HK wr).out HDF.out
     by_cases hjn : j < n
     ·obtain ⟨b,off,rfl,hb1,hb2,hcell⟩ := (HT1.out.later hbw HT1.out.2.1).2.2 (by omega)
      have c1 : wr.cell? ⟨b,off + j,none⟩ = some (.string (vs.getD j ByteArray.empty)) := hcell j hjn
      have hg := HVS.out j hjn
      have HTK : Hid ((vs.take (j + 1)).map (fun y => numB y.size) = (vs.take j).map (fun y => numB y.size) ++ [numB (vs.getD j ByteArray.empty).size] ∧ vs.take (j + 1) = vs.take j ++ [vs.getD j ByteArray.empty]) := by
       have e : vs.take (j + 1) = vs.take j ++ [vs.getD j ByteArray.empty] := by
        rw [List.take_add_one,List.getD_eq_getElem?_getD,List.getElem?_eq_getElem (by rw [HL.out]; exact hjn)]
        rfl
       exact ⟨by rw [e,List.map_append]; rfl,e⟩
      have HP2 := hide (HP1.out.here hbw)
      have hl1 : (H7 ++ (vs.take j).map (fun y => numB y.size)).length <= 1000 := by rw [List.length_append,List.length_map,List.length_take]; omega
      have hl2 : (tx :: vs.take j).length <= 1000 := by rw [List.length_cons,List.length_take]; omega
      have HPF1 := hide hpf1
      generalize vs.getD j ByteArray.empty = v at *
      clear hpf1 hbw hcell
      go_wp2_with fail
      refine (text_any v hg HDU.out HPF1.out ⟨HNE.out.1,HNE.out.2.1⟩ HP2.out hl1 hl2).mono ?_
      rintro r w2 ⟨⟨u,rfl⟩,hd2,hf2⟩
      have HD2 := hide hd2
      have HF2 := hide (HDF.out.trans hf2)
      clear hd2 hf2 c1
      go_wp2_with fail
      go_roundw
      case rel => exact ⟨j + 1,by omega,by go_num,by rw [HTK.out.1,HTK.out.2,<- List.append_assoc]; exact HD2.out,HF2.out⟩
      case measure => simp [intOf]; omega
     ·obtain rfl : j = n := by omega
      have HPB := hide hbw
      have e9 : vs.take j = vs := List.take_of_length_le (by rw [HL.out]; exact Nat.le_refl _)
      rw [e9] at HDU
      clear e9
      obtain ⟨vw,vt,k1,k2,k3,k4,_⟩ := HDU.out
      obtain ⟨aw,cw,rfl,hcw,how⟩ := tx_texts k3
      obtain ⟨at_,ct,rfl,hct,hot⟩ := tx_texts k4
      have HOW := hide how
      have HOT := hide hot
      have cw0 := note_one k1
      have ct0 := note_one k2
      clear k1 k2 k3 k4 hpf1 hbw how hot
      obtain ⟨ns,hns⟩ : ∃ ns : List Nat,ns = [U,E,S,A,tx.size,j] ++ vs.map ByteArray.size := ⟨_,rfl⟩
      rw [<- hns] at HE
      have hww : H7 ++ vs.map (fun y => numB y.size) = (K :: ns).map numB := by
       rw [HH7.out,HL5E.out,hns]
       simp
      have hst : ∀ y ∈ tx :: vs,y.size <= 100 := by
       intro y hy
       rcases List.mem_cons.1 hy with rfl | hy
       ·omega
       ·obtain ⟨i,hi,rfl⟩ := List.getElem_of_mem hy
        have := HVS.out i (by rw [<- HL.out]; exact hi)
        rw [List.getD_eq_getElem?_getD,List.getElem?_eq_getElem hi,Option.getD_some] at this
        omega
      have hsm : ∀ y ∈ H7 ++ vs.map (fun y => numB y.size),y.size <= 100 := by
       rw [hww,hns]
       intro y hy
       obtain ⟨m,hm,rfl⟩ := List.mem_map.1 hy
       refine numB_small ?_
       simp only [List.mem_cons,List.mem_append,List.mem_map,List.not_mem_nil,or_false] at hm
       rcases hm with rfl | (rfl | rfl | rfl | rfl | rfl | rfl) | ⟨z,hz,rfl⟩
       all_goals first | omega | (have := hst z (List.mem_cons_of_mem _ hz); omega)
      obtain ⟨nw,hnw⟩ : ∃ nw,nw = (H7 ++ vs.map (fun y => numB y.size)).length := ⟨_,rfl⟩
      obtain ⟨nt,hnt⟩ : ∃ nt,nt = (tx :: vs).length := ⟨_,rfl⟩
      have hnw2 : nw = 7 + j := by rw [hnw,List.length_append,List.length_map,hl7,HL.out]
      have hnt2 : nt = j + 1 := by rw [hnt,List.length_cons,HL.out]
      rw [<- hnw] at cw0 HOW hcw
      rw [<- hnt] at ct0 HOT hct
      obtain ⟨sW,hsW⟩ : ∃ sW,sW = mkB (lineN (K :: ns)) := ⟨_,rfl⟩
      obtain ⟨sT,hsT⟩ : ∃ sT,sT = mkB (bodyT ⟨K,U,E,S,A,tx,vs⟩) := ⟨_,rfl⟩
      have cJ1 : ∀ d os,Calls Tryd.prog 51 #[.slice aw nw cw,.string ⟨#[32]⟩] (Go.Sort.grow (redrawn wr d) os) fun e w'' => e = .returned (.string sW) ∧ ∃ p : Regrown,w'' = Go.Sort.grow (redrawn wr p.d) p.os := fun d os => Calls.regrown_of (by
       have := joinT_any aw nw cw _ ⟨#[32]⟩ _ (HOW.out.texts.later (below_regrown wr d os) (Nat.le_refl _)) hcw (by omega) hsm (by decide)
       rw [hww] at this
       rw [hsW,<- join_line]
       exact this)
      have cJ2 : ∀ d os,Calls Tryd.prog 51 #[.slice at_ nt ct,.string ⟨#[]⟩] (Go.Sort.grow (redrawn wr d) os) fun e w'' => e = .returned (.string sT) ∧ ∃ p : Regrown,w'' = Go.Sort.grow (redrawn wr p.d) p.os := fun d os => Calls.regrown_of (by
       have := joinT_any at_ nt ct _ ⟨#[]⟩ _ (HOT.out.texts.later (below_regrown wr d os) (Nat.le_refl _)) hct (by omega) hst (by decide)
       rw [hsT]
       unfold bodyT
       rw [<- join_body]
       exact this)
      have hzW : sW.size <= 100000 := by
       rw [hsW,mkB_size,<- join_line]
       have := join_small (((K :: ns).map numB).map fun y => y.data.toList) [32] (by decide) (fun x hx => by
        obtain ⟨y,hy,rfl⟩ := List.mem_map.1 hx
        rw [<- hww] at hy
        have h5 := hsm y hy
        have e : y.data.toList.length = y.size := by simp
        omega)
       have e9 : ((K :: ns).map numB).length = nw := by rw [hnw,hww]
       rw [List.length_map,e9] at this
       omega
      have hzT : sT.size <= 100000 := by
       rw [hsT,mkB_size]
       unfold bodyT
       rw [<- join_body]
       show (Lib.join ((tx :: vs).map fun y => y.data.toList) []).length <= 100000
       have := join_small ((tx :: vs).map fun y => y.data.toList) [] (by decide) (fun x hx => by
        obtain ⟨y,hy,rfl⟩ := List.mem_map.1 hx
        have h5 := hst y hy
        have e : y.data.toList.length = y.size := by simp
        omega)
       rw [List.length_map,<- hnt] at this
       omega
      have hz10 : (⟨#[10]⟩ : ByteArray).size = 1 := rfl
      obtain ⟨s1,hs1⟩ : ∃ s,s = sW ++ ⟨#[10]⟩ := ⟨_,rfl⟩
      obtain ⟨s2,hs2⟩ : ∃ s,s = s1 ++ sT := ⟨_,rfl⟩
      have hz1 : s1.size <= 100001 := by rw [hs1,ByteArray.size_append]; omega
      have hz2 : s2.size <= 200001 := by rw [hs2,ByteArray.size_append]; omega
      have hop1 : ∀ W,(Op.stringOp .add sW ⟨#[10]⟩).run Tryd.prog W = .ok (.string s1) W := fun W => by rw [hs1]; exact run_string_add_sum _ _ _ (by omega)
      have hop2 : ∀ W,(Op.stringOp .add s1 sT).run Tryd.prog W = .ok (.string s2) W := fun W => by rw [hs2]; exact run_string_add_sum _ _ _ (by omega)
      have cC : ∀ d os,Calls Tryd.prog 50 #[.string s2] (Go.Sort.grow (redrawn wr d) os) fun e w'' => e = .returned (.string (showNt ⟨K,U,E,S,A,tx,vs⟩)) ∧ ∃ p : Regrown,w'' = Go.Sort.grow (redrawn wr p.d) p.os := fun d os => Calls.regrown_of (by
       have e4 : s2 = mkB (lineN (K :: ns) ++ 10 :: bodyT ⟨K,U,E,S,A,tx,vs⟩) := by
        rw [hs2,hs1,hsW,hsT]
        refine ba_ext ?_
        rw [ba_append,ba_append,mkB_list,mkB_list,mkB_list]
        simp
       rw [HE.out,<- e4]
       exact implChecked_any _ _ (by omega))
      have t0 := fun d os => cell_regrown cw0 d os
      have t1 := fun d os => cell_regrown ct0 d os
      clear hww hsm hst hnw hnt hnw2 hnt2 hsW hsT hzW hzT hz10 hs1 hs2 hz1 hz2 cw0 ct0 HOW HOT HE HDU hns
      go_wp2_with fail
      refine wp_region_quiet_below (by kernel_rfl) (by kernel_rfl) ?_
      repeat (go_big_quiet_step (first | (go_at_call 51; with_reducible exact cJ1 _ _) | (go_at_call 51; with_reducible exact cJ2 _ _) | (go_at_call 50; exact cC _ _)))
      refine wpQuiet_nil ?_
      intro _ hw'
      obtain ⟨⟨dq,osq⟩,hw''⟩ := hw'
      subst hw''
      have HR3 := hide (below_here (below_here HB1.out HPB.out) (below_regrown wr dq osq))
      go_wp2_with fail
      go_ret
      exact ⟨rfl,HR3.out⟩
end Go.Proofs.YtdjifickdcnacaaDoor
