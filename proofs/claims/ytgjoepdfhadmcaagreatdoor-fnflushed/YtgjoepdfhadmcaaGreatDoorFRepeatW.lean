/- . -/
import Derived.Test.YtgjoepdfhadmcaaGreatDoorFChipOwn2
import Derived.Test.YtgjoepdfhadmcaaGreatDoorFCopyBase
import Derived.Laws.Bits64b
import Derived.BigRegion
namespace Go.Proofs.YtgjoepdfhadmcaaGreatDoor
open Go.RowKit
set_option linter.unusedVariables false
set_option maxRecDepth 20000
set_option maxHeartbeats 800000 in
theorem mul64_one (n : Nat) (h : n <= 64) (w : World) :
  Calls Tryz.prog 207 #[.int .u64 1,.int .u64 (n : Int)] w fun e w' => e = .returned (.tuple #[.int .u64 0,.int .u64 (n : Int)]) ∧ w' = w := by
 have m1 : bits .and .u64 (n : Int) 4294967295 = (n : Int) := by
  have h := bits_and_u64_nat n 4294967295 (by omega) (by omega)
  have e : n &&& 4294967295 = n % 4294967296 := Nat.and_two_pow_sub_one_eq_mod n 32
  rw [e,Nat.mod_eq_of_lt (by omega)] at h
  exact h
 have m2 : (n : Int) / 4294967296 = 0 := by omega
 have m3 : IntKind.u64.wrap (n : Int) = (n : Int) := by rw [IntKind.wrap_u64]; omega
 have m0 : bits .and .u64 1 4294967295 = 1 := by decide
 have m4 : bits .and .u64 0 4294967295 = 0 := by decide
 have m5 : IntKind.u64.wrap 0 = 0 := by decide
 go_enter Tryz.func207,Tryz.ntmps207
 go_wp2_with fail
 go_ret2
 exact ⟨by simp,rfl⟩
set_option maxHeartbeats 800000 in
theorem mul_one (n : Nat) (h : n <= 64) (w : World) :
  Calls Tryz.prog 173 #[.int .u64 1,.int .u64 (n : Int)] w fun e w' => e = .returned (.tuple #[.int .u64 0,.int .u64 (n : Int)]) ∧ w' = w := by
 go_enter Tryz.func173,Tryz.ntmps173
 go_wp2_with fail
 refine (mul64_one n h w).mono ?_
 rintro e w' ⟨rfl,hw⟩
 rw [hw]
 go_wp2_with fail
 go_ret2
 exact ⟨rfl,rfl⟩
theorem copy_two {P : Program} (w : World) (dT sT ty elem : TypeId) (b o dLen dCap : Nat) (a : Addr) (sLen sCap c : Nat) (cs : List Value)
  (hu : P.underlying dT = some (.slice elem)) (hs : (P.info? elem).map (·.size) = some 2) (hc0 : c = Nat.min sLen dLen) (hn : cs.length = c * 2)
  (hsrc : ∀ j v,cs[j]? = some v -> w.cell? (a.add j) = some v) (hc : ∀ j,j < cs.length -> (w.cell? ⟨b,o + j,none⟩).isSome = true) (hf : ∀ j,j < cs.length -> w.frozen? ⟨b,o + j,none⟩ = false) (h1 : ∀ v ∈ cs,v.oneCell' = true) :
  (Builtin.copy_ #[dT,sT] ty #[.slice (some ⟨b,o,none⟩) dLen dCap,.slice (some a) sLen sCap]).run P w = .ok (goInt c) (w.setCells b o cs) := by
 have hl := run_loadCells_list (P := P) w a cs hsrc
 have hst := run_storeCells_cells (P := P) b o cs 0 w (by simpa using hc) (by simpa using hf) h1
 cases hq : P.info? elem with
 | none => simp [hq] at hs
 | some i =>
  have hi : i.size = 2 := by simpa [hq] using hs
  simp [Builtin.copy_,run_underlying hu,Builtin.lenOf,Builtin.firstCells,sizeOf,typeInfo,hq,hi,<- hc0,<- hn,hl,hst]
theorem setCells_aside (g : Nat) : ∀ (vs : List Value) (o : Nat) (w : World),Aside g (g + 1) w (w.setCells g o vs)
 | [],o,w => Aside.refl _ _ _
 | v :: r,o,w => ((Aside.refl g (g + 1) w).setCell (p := ⟨g,o,none⟩) (Nat.le_refl _) (Nat.lt_succ_self _) v).trans (setCells_aside g r (o + 1) _)
theorem owned_setCells {lo hi g N o : Nat} {w : World} {f f' : Nat -> Value} (h : Owned lo hi w (some ⟨g,0,none⟩) N f) (cs : List Value) (hN : 0 < N) (hfit : o + cs.length <= N) (hin : ∀ j,j < cs.length -> cs[j]? = some (f' (o + j))) (hout : ∀ i,i < N -> i < o ∨ o + cs.length <= i -> f' i = f i) : Owned lo hi (w.setCells g o cs) (some ⟨g,0,none⟩) N f' := by
 have hA := setCells_aside g cs o w
 obtain ⟨b,off,e,h1,h2,h3⟩ := h.2 hN
 simp only [Option.some.injEq,Addr.mk.injEq,and_true] at e
 obtain ⟨rfl,rfl⟩ := e
 refine ⟨Nat.le_trans h.1 hA.size,fun _ => ⟨g,0,rfl,h1,h2,fun i hi => ⟨?_,?_⟩⟩⟩
 ·rw [Nat.zero_add]
  by_cases hc : i < o ∨ o + cs.length <= i
  ·rw [World.cell?_setCells_out g cs o w _ (fun _ _ => hc),hout i hi hc]
   have := (h3 i hi).1
   rw [Nat.zero_add] at this
   exact this
  ·have hj : i - o < cs.length := by omega
   have := World.cell?_setCells_in g cs o w (fun j hj => by have := (h3 (o + j) (by omega)).1; rw [Nat.zero_add] at this; rw [this]; rfl) (i - o) hj
   rw [show o + (i - o) = i by omega] at this
   rw [this]
   have h9 := hin (i - o) hj
   rw [show o + (i - o) = i by omega] at h9
   rw [<- h9,List.getElem?_eq_getElem hj]
 ·rw [World.frozen?_setCells]
  exact (h3 i hi).2
def fillP (k j : Nat) : Value := if j < 2 * k ∧ j % 2 = 0 then .int .i64 (-1) else .int .i64 0
theorem fillP_one (k j : Nat) : (fillP k j).oneCell' = true := by unfold fillP; split <;> rfl
theorem fillP_all (n j : Nat) (h : j < 2 * n) : fillP n j = cellP (List.replicate n (-1,0)) j := by
 have hp : plAt (List.replicate n ((-1 : Int),(0 : Int))) (j / 2) = (-1,0) := by
  unfold plAt
  rw [List.getD_eq_getElem?_getD,List.getElem?_replicate]
  split <;> simp
  omega
 unfold fillP
 rcases (show j % 2 = 0 ∨ j % 2 = 1 by omega) with h1 | h1
 ·rw [if_pos ⟨h,h1⟩]
  have e : j = 2 * (j / 2) := by omega
  rw [e,cellP0,hp]
 ·rw [if_neg (by omega)]
  have e : j = 2 * (j / 2) + 1 := by omega
  rw [e,cellP1,hp]
theorem copy_fill {lo hi g n k c : Nat} {w : World} (elem dT sT ty : TypeId) (hu : Tryz.prog.underlying dT = some (.slice elem)) (hs : (Tryz.prog.info? elem).map (·.size) = some 2) (h : Owned lo hi w (some ⟨g,0,none⟩) (2 * n) (fillP k)) (hk : k < n) (hk0 : 1 <= k) (hc : c = Nat.min k (n - k)) :
  ∃ w1,(Builtin.copy_ #[dT,sT] ty #[.slice (some ⟨g,k * 2,none⟩) (n - k) (n - k),.slice (some ⟨g,0,none⟩) k n]).run Tryz.prog w = .ok (goInt c) w1 ∧ Owned lo hi w1 (some ⟨g,0,none⟩) (2 * n) (fillP (k + c)) ∧ Aside g (g + 1) w w1 := by
 have hck : c <= k := by rw [hc]; exact Nat.min_le_left _ _
 have hcn : c <= n - k := by rw [hc]; exact Nat.min_le_right _ _
 obtain ⟨b,off,e,h1,h2,h3⟩ := h.2 (by omega)
 simp only [Option.some.injEq,Addr.mk.injEq,and_true] at e
 obtain ⟨rfl,rfl⟩ := e
 have hl : ((List.range (c * 2)).map (fillP k)).length = c * 2 := by simp
 have hrun := copy_two (P := Tryz.prog) w dT sT ty elem g (k * 2) (n - k) (n - k) ⟨g,0,none⟩ k n c ((List.range (c * 2)).map (fillP k)) hu hs hc hl
  (fun j v hj => by
   have hj2 : j < c * 2 := by
    rcases Nat.lt_or_ge j (c * 2) with h' | h'
    ·exact h'
    ·rw [List.getElem?_eq_none (by rw [hl]; exact h')] at hj; simp at hj
   have hadd : (⟨g,0,none⟩ : Addr).add j = ⟨g,0 + j,none⟩ := by unfold Addr.add; split <;> simp_all
   rw [hadd,(h3 j (by omega)).1]
   simpa [hj2] using hj)
  (fun j hj => by rw [hl] at hj; have := (h3 (k * 2 + j) (by omega)).1; rw [Nat.zero_add] at this; rw [this]; rfl)
  (fun j hj => by rw [hl] at hj; have := (h3 (k * 2 + j) (by omega)).2; rw [Nat.zero_add] at this; exact this)
  (fun v hv => by rw [List.mem_map] at hv; obtain ⟨i,_,rfl⟩ := hv; exact fillP_one k i)
 refine ⟨_,hrun,owned_setCells h _ (by omega) (by rw [hl]; omega) (fun j hj => ?_) (fun i hi ho => ?_),setCells_aside g _ _ w⟩
 ·rw [hl] at hj
  rw [List.getElem?_map,List.getElem?_range hj]
  simp only [Option.map_some,Option.some.injEq]
  unfold fillP
  by_cases e : j % 2 = 0
  ·rw [if_pos (by omega),if_pos (by omega)]
  ·rw [if_neg (by omega),if_neg (by omega)]
 ·rw [hl] at ho
  unfold fillP
  by_cases e : i < 2 * k ∧ i % 2 = 0
  ·rw [if_pos e,if_pos (by omega)]
  ·rw [if_neg e,if_neg (by omega)]
theorem copy_first {lo hi lo' hi' g n : Nat} {w : World} {ad : Addr} {cap : Nat} (elem dT sT ty : TypeId) (hu : Tryz.prog.underlying dT = some (.slice elem)) (hs : (Tryz.prog.info? elem).map (·.size) = some 2) (h : Owned lo hi w (some ⟨g,0,none⟩) (2 * n) (fun _ => .int .i64 0)) (hn : 1 <= n) (hx : Places lo' hi' w (some ad) 1 [(-1,0)]) :
  ∃ w1,(Builtin.copy_ #[dT,sT] ty #[.slice (some ⟨g,0,none⟩) n n,.slice (some ad) 1 cap]).run Tryz.prog w = .ok (goInt 1) w1 ∧ Owned lo hi w1 (some ⟨g,0,none⟩) (2 * n) (fillP 1) ∧ Aside g (g + 1) w w1 := by
 obtain ⟨b,off,e,h1,h2,h3⟩ := h.2 (by omega)
 simp only [Option.some.injEq,Addr.mk.injEq,and_true] at e
 obtain ⟨rfl,rfl⟩ := e
 obtain ⟨b,off,e,_,_,h4⟩ := hx.2.2 (by omega)
 simp only [Option.some.injEq] at e
 subst e
 have c0 := h4 0 (by omega)
 have c1 := h4 1 (by omega)
 have hrun := copy_two (P := Tryz.prog) w dT sT ty elem g 0 n n ⟨b,off,none⟩ 1 cap 1 [.int .i64 (-1),.int .i64 0] hu hs (by show 1 = Nat.min 1 n; exact (Nat.min_eq_left hn).symm) rfl
  (fun j v hj => by
   rcases j with _ | _ | j
   ·have e : v = .int .i64 (-1) := by simpa using hj.symm
    rw [e]
    exact c0
   ·have e : v = .int .i64 0 := by simpa using hj.symm
    rw [e]
    have hadd : (⟨b,off,none⟩ : Addr).add (0 + 1) = ⟨b,off + 1,none⟩ := by unfold Addr.add; split <;> simp_all
    rw [hadd]
    exact c1
   ·simp at hj)
  (fun j hj => by have hj' : j < 2 := hj; have := (h3 j (by omega)).1; rw [this]; rfl)
  (fun j hj => by have hj' : j < 2 := hj; exact (h3 j (by omega)).2)
  (fun v hv => by simp at hv; rcases hv with rfl | rfl <;> rfl)
 refine ⟨_,hrun,owned_setCells h _ (by omega) (by show 0 + 2 <= 2 * n; omega) (fun j hj => ?_) (fun i hi ho => ?_),setCells_aside g _ _ w⟩
 ·have hj' : j < 2 := hj
  rcases j with _ | _ | j
  ·rfl
  ·rfl
  ·omega
 ·have ho' : i < 0 ∨ 0 + 2 <= i := ho
  unfold fillP
  rw [if_neg (by omega)]
theorem slice_rest2 {P : Program} (t e : TypeId) (ht : P.underlying t = some (.slice e)) (hs : ∀ w,(sizeOf e).run P w = .ok 2 w) (g n k : Nat) (hk : k < n) :
  ∀ w,(Instr.sliceAt t (.slice (some ⟨g,0,none⟩) n n) (some (.int .i64 (k : Int))) none none).run P w = .ok (.slice (some ⟨g,k * 2,none⟩) (n - k) (n - k)) w := by
 intro w
 have he : P.elem t = e := by simp [Program.elem,ht]
 have ht' : P.underlying t = some (.slice (P.elem t)) := by rw [he]; exact ht
 rw [run_sliceAt_slice w t _ _ _ _ ht',run_slice_l (P := P) w t _ n n ht' .i64 (k : Int) (by omega) (by omega),he,hs]
 have : n ≠ k := by omega
 simp [sliced,Result.andThen,Addr.add,this]
 omega
theorem slice_first2 {P : Program} (t e : TypeId) (ht : P.underlying t = some (.slice e)) (hs : ∀ w,(sizeOf e).run P w = .ok 2 w) (g n k : Nat) (hk : k <= n) :
  ∀ w,(Instr.sliceAt t (.slice (some ⟨g,0,none⟩) n n) none (some (.int .i64 (k : Int))) none).run P w = .ok (.slice (some ⟨g,0,none⟩) k n) w := by
 intro w
 have he : P.elem t = e := by simp [Program.elem,ht]
 have ht' : P.underlying t = some (.slice (P.elem t)) := by rw [he]; exact ht
 rw [run_sliceAt_slice w t _ _ _ _ ht',run_slice_h (P := P) w t _ n n ht' .i64 (k : Int) (by omega) (by omega),he,hs]
 simp [sliced,Result.andThen,Addr.add]
set_option maxHeartbeats 1600000 in
theorem repeat_any (n : Nat) (w : World) {ad : Addr} {lo hi cap : Nat} (hx : Places lo hi w (some ad) 1 [(-1,0)]) (hhi : hi <= w.heap.size) (h1 : 1 <= n) (h64 : n <= 64) :
  Calls Tryz.prog 133 #[.slice (some ad) 1 cap,.int .i64 (n : Int)] w fun e w' => e = .returned (.slice (some ⟨w.heap.size,0,none⟩) n n) ∧ OwnPlaces w.heap.size (w.heap.size + 1) w' (some ⟨w.heap.size,0,none⟩) n (List.replicate n (-1,0)) ∧ Below w.heap.size w w' := by
 obtain ⟨wA,hwA⟩ : ∃ wA,wA = w.alloc (.cells (madeCells #[.int .i64 0,.int .i64 0] (n * 2)) 39) := ⟨_,rfl⟩
 have HMK : Hid ((Instr.makeSlice 27 (.int .i64 (n : Int)) (.int .i64 (n : Int))).run Tryz.prog w = .ok (.slice (some ⟨w.heap.size,0,none⟩) n n) wA) := by
  rw [hwA]
  exact make2 27 39 (.int .i64 0) (.int .i64 0) 16 (by kernel_rfl) (by kernel_rfl) n (by omega) (by omega) w
 have HB : Hid (Below w.heap.size w wA) := by rw [hwA]; exact (Below.refl _ _).alloc (Nat.le_refl _) _
 have HO : Hid (Owned w.heap.size (w.heap.size + 1) wA (some ⟨w.heap.size,0,none⟩) (2 * n) (fun _ => .int .i64 0)) := by rw [hwA]; exact madeP w n _
 have hzA : wA.heap.size = w.heap.size + 1 := by rw [hwA]; simp
 obtain ⟨wB,hcp,hrow,hasd⟩ := copy_first (cap := cap) 39 27 27 3 (by kernel_rfl) (by kernel_rfl) HO.out h1 (hx.later HB.out hhi)
 have HCP := hide hcp
 have HR := hide hrow
 have HA := hide (aside_new HB.out (lo := w.heap.size) (hi := w.heap.size + 1) |>.trans hasd)
 clear hcp hrow hasd hx HO HB hwA
 obtain ⟨g,hg⟩ : ∃ g,g = w.heap.size := ⟨_,rfl⟩
 have HG := hide hg
 go_enter Tryz.func133,Tryz.ntmps133
 go_wp2_with fail
 refine (mul_one n h64 w).mono ?_
 rintro e w' ⟨rfl,hw⟩
 rw [hw]
 clear hw
 have hmk := HMK.out
 have hcp := HCP.out
 go_wp2_with fail
 clear hmk hcp HMK HCP
 go_loopw [8] (fun t wr => ∃ k : Nat,1 <= k ∧ k <= n ∧ t = .int .i64 (k : Int) ∧ Owned w.heap.size (w.heap.size + 1) wr (some ⟨w.heap.size,0,none⟩) (2 * n) (fillP k) ∧ Aside w.heap.size (w.heap.size + 1) w wr) (fun t _ => n - (intOf t).toNat)
 case atStart => exact ⟨1,Nat.le_refl _,h1,rfl,HR.out,HA.out⟩
 case round =>
  obtain ⟨k,hk1,hk,rfl,hrow,hasd⟩ := hrel
  have HRW := hide hrow
  have HAS := hide hasd
  clear hrow hasd HR HA
  by_cases hlt : k < n
  ·have hlt2 : (k : Int) < (n : Int) := by omega
   have hs1 := slice_rest2 (P := Tryz.prog) 27 39 (by kernel_rfl) (fun _ => by kernel_rfl) w.heap.size n k hlt
   have hs2 := slice_first2 (P := Tryz.prog) 27 39 (by kernel_rfl) (fun _ => by kernel_rfl) w.heap.size n k (by omega)
   obtain ⟨c,hc⟩ : ∃ c,c = Nat.min k (n - k) := ⟨_,rfl⟩
   have hc1 : 1 <= c := by rw [hc]; exact Nat.le_min.2 ⟨hk1,by omega⟩
   have hc2 : c <= n - k := by rw [hc]; exact Nat.min_le_right _ _
   obtain ⟨w1,hcp,hrow,hasd⟩ := copy_fill (w := wr.drew) 39 27 27 3 (by kernel_rfl) (by kernel_rfl) (show Owned _ _ wr.drew _ _ _ from HRW.out) hlt hk1 hc
   have HN := hide hrow
   have HNA : Hid (Aside w.heap.size (w.heap.size + 1) w w1) := (show Aside _ _ w wr.drew from ⟨HAS.out.os,HAS.out.tape,HAS.out.output,HAS.out.size,HAS.out.block⟩).trans hasd
   clear hrow hasd hc
   go_wp2_with fail
   go_region
   go_wp2_with fail
   exact ⟨⟨k + c,by omega,by omega,by go_num,HN.out,HNA.out⟩,by simp [intOf]; omega⟩
  ·obtain rfl : k = n := by omega
   go_wp2_with fail
   go_ret
   exact ⟨rfl,⟨by simp,HRW.out.congr (fun j hj => fillP_all k j hj)⟩,HAS.out.below (Nat.le_refl _) (Nat.le_refl _)⟩
end Go.Proofs.YtgjoepdfhadmcaaGreatDoor
