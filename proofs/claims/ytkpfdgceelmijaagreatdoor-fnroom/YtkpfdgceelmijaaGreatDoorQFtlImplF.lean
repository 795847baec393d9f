/- The program's stepToRoom, hasRoom, makeRoom. -/
import Derived.Test.YtkpfdgceelmijaaGreatDoorQFtlImplD
import Derived.Test.YtkpfdgceelmijaaGreatDoorQHeapImplC
import Derived.Test.YtkpfdgceelmijaaGreatDoorQWearImplE
import Derived.Test.YtkpfdgceelmijaaGreatDoorQFtlMath
namespace Go.Proofs.YtkpfdgceelmijaaGreatDoor
open Go.RowKit
set_option linter.unusedVariables false
set_option maxRecDepth 20000

theorem victimV_neg {z : Int} {qs : List Sq} {ps : List Pl} {op : Int} (h : victimV z qs ps op < 0) : victimV z qs ps op = -1 := by
  unfold victimV at h ⊢
  split
  · rfl
  · rename_i b hb
    rw [hb] at h
    dsimp only at h
    split
    · rfl
    · rename_i h2
      rw [if_neg h2] at h
      omega
theorem KeeperAt.opened {B pk n g c gm cm : Nat} {w : World} {z st : Int} {A : Nat → Option Addr} {C : Nat → Nat} {V : Value} {s : Kp} {aN : Addr} (h : KeeperAt B w pk z st n g c gm cm A C V s aN) (o : Int) :
    KeeperAt B (w.setCell ⟨pk, 3, none⟩ (.int .i64 o)) pk z st n g c gm cm A C V (withOp s o) aN := by
  have hm := h.mem.set (o := 3) (.int .i64 o) h.nk h.box (by decide) (by decide) (by decide)
  refine ⟨⟨hm.sq, hm.pl, hm.jb, hm.ne, hm.nj⟩, set_block h.box 3 _ (by simp), h.nk, h.bk, ?_, h.eb⟩
  rw [World.cell?_setCell_other _ _ _ _ (by intro e2; simp only [Addr.mk.injEq] at e2; have := h.eb; have := h.bk; omega)]
  exact h.er
theorem first_int {w : World} {lo hi n : Nat} {a : Option Addr} {l : List Nat} (h : OwnInts lo hi w a n (l.map (fun (i : Nat) => (i : Int)))) : l.length = n ∧ (0 < n → ∃ ge off, a = some ⟨ge, off, none⟩ ∧ ge < w.heap.size ∧ w.cell? ⟨ge, off, none⟩ = some (.int .i64 ((l.getD 0 0 : Nat) : Int))) := by
  obtain ⟨h1, h2, h3⟩ := h
  rw [List.length_map] at h1
  refine ⟨h1, fun h0 => ?_⟩
  obtain ⟨b, off, e, _, hb, hc⟩ := h3 h0
  refine ⟨b, off, e, by omega, ?_⟩
  have := (hc 0 h0).1
  rw [Nat.add_zero] at this
  rw [this]
  unfold cellI
  have h0' : 0 < l.length := by omega
  simp [List.getD_eq_getElem?_getD, List.getElem?_eq_getElem h0']

set_option maxHeartbeats 6400000 in
theorem stepToRoom_any (B pk : Nat) (z st : Int) (n g c gm cm : Nat) (A : Nat → Option Addr) (C : Nat → Nat) (V : Value) (t : Kp) (aN : Addr) (w1 : World) (h : KeeperAt B w1 pk z st n g c gm cm A C V t aN) (hB : B ≤ w1.heap.size) (hK : KOk z t) (hjl : t.js.length ≤ 20000) :
    Calls Tryz.prog 47 #[.pointer (some ⟨pk, 0, none⟩)] w1 fun e w' => IPost (stepK z t) (.tuple #[]) (fun _ => True) B pk z st n g c gm cm aN w1 e w' := by
  have hm64 := hK.map.few
  have htq := h.mem.sq.len
  have hn12 : n ≤ 12 := by have := (chipOk_parts hK.map.chip).2.2.2.1; omega
  obtain ⟨m, hme⟩ : ∃ m, m = t.ps.length := ⟨_, rfl⟩
  have htm : t.ps.length = m := hme.symm
  rw [← hme] at hm64
  have hmc : m ≤ cm := by
    obtain ⟨a9, c9, e9, h9⟩ := pl_form h.mem.pl
    simp only [Value.slice.injEq, true_and] at e9
    rw [htm, ← e9.2] at h9
    exact h9
  obtain ⟨bd1, bd2, bd3, bd4, bd5⟩ := h.bound
  have HKT := hide hK
  have HA1 := hide h
  have HVN := hide (fun hh => victimV_neg (z := z) (qs := t.qs) (ps := t.ps) (op := t.op) hh)
  clear h hK hme
  obtain ⟨x0, x1, x2, x3, x4, x5⟩ := six_cells HA1.out.box
  go_enter Tryz.func47, Tryz.ntmps47
  go_wp2_with fail
  refine (implEmpty_any z (some ⟨g, 0, none⟩) n c t.qs w1 HA1.out.mem.sq.ownS.squares (Nat.le_refl _) (by omega) (chipOk_fits HKT.out.map.chip)).mono ?_
  rintro e w2 ⟨ea, E, ec, rfl, _, hel, hev, b2⟩
  have hev2 : OwnInts w1.heap.size w2.heap.size w2 ea E ((emptyK t.qs t.qs.length).map (fun (i : Nat) => (i : Int))) := by
    have e9 : emptyL z t.qs = (emptyK t.qs t.qs.length).map (fun (i : Nat) => (i : Int)) := by unfold emptyL; rw [HKT.out.map.chip]; rfl
    rw [← e9]; exact hev
  have HA2 := hide (HA1.out.later b2 hB)
  have HF2 := hide (frame_of_below (L := [g, pk, gm]) b2 hB)
  have hs2 := b2.size
  obtain ⟨hE, hfst⟩ := first_int hev2
  have HFS := hide hfst
  have HEF := hide (fun hh => empty_first (qs := t.qs) hh)
  obtain ⟨e0, he0⟩ : ∃ e0, e0 = (emptyK t.qs t.qs.length).getD 0 0 := ⟨_, rfl⟩
  rw [← he0] at HFS
  rw [hE, ← he0] at HEF
  have HE1 : Hid (E = (emptyK t.qs t.qs.length).length) := hE.symm
  have HE0 := hide he0
  clear hE he0 hev hev2 b2 x0 x1 x2 x3 x4 x5 hfst
  obtain ⟨x0, x1, x2, x3, x4, x5⟩ := six_cells HA2.out.box
  have fz := four_frozen HA2.out.box 3
  rw [htm] at x2
  by_cases h2 : 2 ≤ E
  · obtain ⟨ge, oe, rfl, hgl, hge⟩ := HFS.out (by omega)
    obtain ⟨i1, i2, i3⟩ := HEF.out (by omega)
    have g2 : decide ((E : Int) ≥ 2) = true := by simp; omega
    have hEi : (0 : Int) < (E : Int) := by omega
    have HOP := hide (HA2.out.opened (e0 : Int))
    have HFO := hide (HF2.out.set (p := pk) (by simp) HA2.out.bk 3 (.int .i64 (e0 : Int)))
    have HST : Hid (stepK z t = some (withOp t (e0 : Int))) := by
      show _ = _
      unfold stepK
      rw [if_pos (by rw [← HE1.out]; exact h2), ← HE0.out]
    go_wp2_with fail
    go_end0
    unfold IPost
    rw [HST.out]
    exact ⟨HFO.out, rfl, A, C, V, HOP.out, trivial⟩
  · have g2 : decide ((E : Int) ≥ 2) = false := by simp; omega
    have HCV : ∀ w', Hid (Below w2.heap.size w2 w' → Calls Tryz.prog 63 #[.agg #[.int .i64 z, .slice (some ⟨g, 0, none⟩) n c], .slice (some ⟨gm, 0, none⟩) m cm, .int .i64 t.op] w' fun e w'' => e = .returned (.int .i64 (victimV z t.qs t.ps t.op)) ∧ Below w'.heap.size w' w'') := fun w' hb' => by
      have h9 := HA2.out.later hb' (by omega)
      have hpl := pl_places h9.mem.pl
      rw [htm] at hpl
      have e9 : victim z t.qs t.ps t.op = victimV z t.qs t.ps t.op := by unfold victim; rw [HKT.out.map.ok]; rfl
      rw [← e9]
      exact implVictim_any z (some ⟨g, 0, none⟩) n c t.qs (some ⟨gm, 0, none⟩) m cm t.ps t.op w' h9.mem.sq.ownS.squares (Nat.le_refl _) (by omega) (chipOk_fits HKT.out.map.chip) hpl (Nat.le_refl _) (by omega) hmc
    have HVP := hide (fun hh => victim_parts (z := z) (op := t.op) HKT.out.map hh)
    obtain ⟨vv, hvv⟩ : ∃ vv, vv = victimV z t.qs t.ps t.op := ⟨_, rfl⟩
    rw [← hvv] at HVP HCV HVN
    have HVV := hide hvv
    clear hvv
    go_upto_region 3 with fail
    refine wp_region_quiet_tail 12 (by kernel_rfl) (by kernel_rfl) ?_
    simp only [List.take_succ_cons, List.take_zero, List.drop_succ_cons, List.drop_zero]
    repeat (go_big_quiet_step (fail))
    refine wpQuiet_nil ?_
    rintro _ ⟨nq, rfl⟩
    have HBQ : Hid (Below w2.heap.size w2 (w2.drewN nq)) := ⟨rfl, rfl, rfl, Nat.le_refl _, fun _ _ => rfl⟩
    generalize w2.drewN nq = wq at *
    go_wp2_with fail
    refine ((HCV _).out HBQ.out).mono ?_
    rintro e w3 ⟨rfl, b3⟩
    have HB3 := hide (below_here HBQ.out b3)
    have HA3 := hide (HA2.out.later HB3.out (by omega))
    have HF3 := hide (HF2.out.on HB3.out (by omega))
    have hs3 := HB3.out.size
    clear b3 HCV x0 x1 x2 x3 x4 x5 fz
    obtain ⟨x0, x1, x2, x3, x4, x5⟩ := six_cells HA3.out.box
    rw [htm] at x2
    have er3 := HA3.out.er
    unfold noRoomV at er3
    by_cases hv : vv < 0
    · have hv1 := HVN.out hv
      subst hv1
      have HE : Hid (stepK z t = none) := by
        show _ = _
        unfold stepK
        rw [if_neg (by rw [← HE1.out]; exact h2), ← HVV.out, if_pos (by omega)]
      go_wp2_with fail
      refine ⟨rfl, ?_⟩
      unfold IPost
      rw [HE.out]
      exact ⟨HF3.out, rfl⟩
    · obtain ⟨v, hvn, hvl, hvo, hvp, hvb, hvz, _⟩ := HVP.out (by omega)
      subst hvn
      clear HVP hvz HVN
      have hvm : v < n := by omega
      have g3 : ((v : Int) == -1) = false := by simp
      have HV0 : Hid (victimV z t.qs t.ps t.op = (v : Int)) := HVV.out.symm
      have HWL : Hid (ByteArray.empty.size ≤ maxLen) := Nat.zero_le _
      go_wp2_with fail
      refine (placesIn_any (some ⟨gm, 0, none⟩) m cm t.ps (v : Int) w3 (by have h9 := pl_places HA3.out.mem.pl; rw [htm] at h9; exact h9) (by omega)).mono ?_
      rintro e w4 ⟨rfl, b4⟩
      have HB4 := hide (below_here HB3.out b4)
      have HA4 := hide (HA3.out.later b4 (by omega))
      have HF4 := hide (HF3.out.on b4 (by omega))
      have hs4 := b4.size
      clear b4 x0 x1 x2 x3 x4 x5 er3
      obtain ⟨x0, x1, x2, x3, x4, x5⟩ := six_cells HA4.out.box
      rw [htm] at x2
      have er4 := HA4.out.er
      unfold noRoomV at er4
      have hll := liveN_le t.ps (v : Int)
      rw [htm] at hll
      have HSW := hide (fun hh => stepK_wipe (z := z) (s := t) (v := v) (by rw [← HE1.out]; exact h2) HV0.out hh)
      have HSS := hide (fun hh hh' => stepK_stuck (z := z) (s := t) (v := v) hh HV0.out hh')
      have HSM := hide (fun hh hh' => stepK_move (z := z) (s := t) (v := v) (by rw [← HE1.out]; exact h2) hh HV0.out hh')
      rw [← HE1.out] at HSS HSM
      rw [← HE0.out] at HSM
      obtain ⟨lv, hlv⟩ : ∃ lv, lv = liveN t.ps (v : Int) := ⟨_, rfl⟩
      rw [← hlv] at hll HSW HSS HSM
      rw [← hlv]
      clear hlv
      by_cases hl0 : lv = 0
      · have HS0 := hide (HSW.out hl0)
        subst hl0
        simp only [show ((0 : Nat) : Int) = 0 from rfl]
        go_wp2_with fail
        refine (do_any B pk z st n g c gm cm A C V t aN 2 (v : Int) ByteArray.empty w4 HA4.out (by omega) HKT.out.map.chip HWL.out (by omega)).mono ?_
        rintro e w5 ⟨hf5, hk5⟩
        have HF5 := hide (HF4.out.trans hf5)
        clear hf5 x0 x1 x2 x3 x4 x5 er4
        cases hd : doK z t (2, (v : Int), ByteArray.empty) with
        | none =>
          have HE : Hid (stepK z t = none) := HS0.out.trans hd
          rw [hd] at hk5
          dsimp only at hk5
          subst hk5
          unfold noRoomV
          go_wp2_with fail
          refine ⟨rfl, ?_⟩
          unfold IPost
          rw [HE.out]
          exact ⟨HF5.out, rfl⟩
        | some t1 =>
          have HE : Hid (stepK z t = some t1) := HS0.out.trans hd
          rw [hd] at hk5
          dsimp only at hk5
          obtain ⟨rfl, A5, C5, V5, hA5, _⟩ := hk5
          have HA5 := hide hA5
          clear hA5 hd
          go_wp2_with fail
          go_end0
          unfold IPost
          rw [HE.out]
          exact ⟨HF5.out, rfl, A5, C5, V5, HA5.out, trivial⟩
      · have g4 : decide ((lv : Int) > 0) = true := by simp; omega
        by_cases hE0 : E = 0
        · have HE := hide (HSS.out hE0 (by omega))
          subst hE0
          simp only [show ((0 : Nat) : Int) = 0 from rfl]
          go_wp2_with fail
          refine ⟨rfl, ?_⟩
          unfold IPost
          rw [HE.out]
          exact ⟨HF4.out, rfl⟩
        · have g5 : ((E : Int) == 0) = false := by simpa using (show (E : Int) ≠ 0 by omega)
          obtain ⟨ge, oe, rfl, hgl, hge⟩ := HFS.out (by omega)
          obtain ⟨i1, i2, i3⟩ := HEF.out (by omega)
          have hge4 := (HB4.out.cell (p := ⟨ge, oe, none⟩) hgl).trans hge
          have hEi : (0 : Int) < (E : Int) := by omega
          have HOP := hide (HA4.out.opened (e0 : Int))
          have HKO := hide (withOp_ok HKT.out i1 i3)
          have HFO := hide (HF4.out.set (p := pk) (by simp) HA4.out.bk 3 (.int .i64 (e0 : Int)))
          have fz := four_frozen HA4.out.box 3
          have hvne : v ≠ e0 := fun e => by subst e; omega
          have HSM1 := hide (HSM.out hE0 (by omega))
          obtain ⟨wM, hwM⟩ : ∃ wM, wM = w4.setCell ⟨pk, 3, none⟩ (.int .i64 (e0 : Int)) := ⟨_, rfl⟩
          have hsM : wM.heap.size = w4.heap.size := by rw [hwM, Go.Deep.nblk_setCell]
          have HSZ := hide hsM
          rw [← hwM] at HOP HFO
          clear hge hsM
          go_wp2_with fail
          rw [← hwM]
          clear hwM x0 x1 x2 x3 x4 x5 fz er4
          refine (moveFrom_any B pk z st n g c gm cm A C V (withOp t (e0 : Int)) aN v wM HOP.out (by rw [HSZ.out]; omega) HKO.out e0 rfl (by show (v : Int) ≠ (e0 : Int); omega) hvl (by show t.js.length ≤ _; omega) i2).mono ?_
          rintro e w5 ⟨hf5, hk5⟩
          have HF5 := hide (HFO.out.trans hf5)
          have hs5 := hf5.below.size
          rw [HSZ.out] at hs5
          clear hf5
          cases hmv : moveK z v (withOp t (e0 : Int)) with
          | none =>
            have HE : Hid (stepK z t = none) := by show _ = _; rw [HSM1.out, hmv]; rfl
            rw [hmv] at hk5
            dsimp only at hk5
            subst hk5
            unfold noRoomV
            go_wp2_with fail
            refine ⟨rfl, ?_⟩
            unfold IPost
            rw [HE.out]
            exact ⟨HF5.out, rfl⟩
          | some t1 =>
            rw [hmv] at hk5
            dsimp only at hk5
            obtain ⟨rfl, A5, C5, V5, hA5, _⟩ := hk5
            have HA5 := hide hA5
            have HS1 : Hid (stepK z t = doK z t1 (2, (v : Int), ByteArray.empty)) := by show _ = _; rw [HSM1.out, hmv]; rfl
            have hM1 := moveP_moved HKO.out (show (v : Int) ≠ (withOp t (e0 : Int)).op by show (v : Int) ≠ (e0 : Int); omega) hmv
            have hln := (moveP_len hmv).1
            have HCK := hide hM1.ok.map.chip
            have hln2 : t1.js.length ≤ 100000 := by
              have h6 : (sqAt (withOp t (e0 : Int)).qs v).1.length * (withOp t (e0 : Int)).ps.length ≤ 8 * 64 := by
                refine Nat.mul_le_mul ?_ (by show t.ps.length ≤ 64; omega)
                have h7 := (sqOk_parts (chipOk_at HKT.out.map.chip hvl)).1
                have h8 := (chipOk_parts HKT.out.map.chip).2.1
                show (sqAt t.qs v).1.length ≤ 8
                omega
              have h9 : (withOp t (e0 : Int)).js.length = t.js.length := rfl
              rw [h9] at hln
              omega
            clear hA5 hmv hM1 hln
            go_wp2_with fail
            refine (do_any B pk z st n g c gm cm A5 C5 V5 t1 aN 2 (v : Int) ByteArray.empty w5 HA5.out (by omega) HCK.out HWL.out (by omega)).mono ?_
            rintro e w6 ⟨hf6, hk6⟩
            have HF6 := hide (HF5.out.trans hf6)
            clear hf6
            cases hd : doK z t1 (2, (v : Int), ByteArray.empty) with
            | none =>
              have HE : Hid (stepK z t = none) := HS1.out.trans hd
              rw [hd] at hk6
              dsimp only at hk6
              subst hk6
              unfold noRoomV
              go_wp2_with fail
              refine ⟨rfl, ?_⟩
              unfold IPost
              rw [HE.out]
              exact ⟨HF6.out, rfl⟩
            | some t2 =>
              have HE : Hid (stepK z t = some t2) := HS1.out.trans hd
              rw [hd] at hk6
              dsimp only at hk6
              obtain ⟨rfl, A6, C6, V6, hA6, _⟩ := hk6
              have HA6 := hide hA6
              clear hA6 hd
              go_wp2_with fail
              go_end0
              unfold IPost
              rw [HE.out]
              exact ⟨HF6.out, rfl, A6, C6, V6, HA6.out, trivial⟩

set_option maxHeartbeats 1600000 in
theorem hasRoom_any (z : Int) (a : Option Addr) (n cap : Nat) (t : Kp) (w : World) {lo hi : Nat} (h : Squares lo hi w a n t.qs) (hhi : hi ≤ w.heap.size) (hn : n ≤ 12) (hl8 : ∀ q ∈ t.qs, q.1.length ≤ 8) (hop : t.op < (n : Int)) :
    Calls Tryz.prog 46 #[.agg #[.int .i64 z, .slice a n cap], .int .i64 t.op] w fun e w' => e = .returned (.bool (roomy z t)) ∧ Below w.heap.size w w' := by
  obtain ⟨wA, hwA⟩ : ∃ wA, wA = w.alloc (.cells #[.int .i64 z, .slice a n cap] 27) := ⟨_, rfl⟩
  have hzA : wA.heap.size = w.heap.size + 1 := by rw [hwA]; simp
  have HBA : Hid (Below w.heap.size w wA) := by rw [hwA]; exact (Below.refl _ _).alloc (Nat.le_refl _) _
  have H0 : Hid (wA.heap[w.heap.size]? = some (.cells #[.int .i64 z, .slice a n cap] 27)) := by rw [hwA]; exact heap_new _ _
  have HS := hide (h.later HBA.out hhi)
  have HL := hide h.1
  have HL8 := hide hl8
  clear h hl8
  obtain ⟨c0, c1⟩ := two_cells H0.out
  have k0 := cell_regrown c0
  have k1 := cell_regrown c1
  by_cases h0 : 0 ≤ t.op
  · obtain ⟨o, ho⟩ : ∃ o : Nat, t.op = (o : Int) := ⟨t.op.toNat, by omega⟩
    have hon : o < n := by omega
    have hoi : (o : Int) < (n : Int) := by omega
    have HR : Hid (roomy z t = decide (((sqAt t.qs o).1.length : Int) < z)) := by show _ = _; unfold roomy; rw [ho]; simp
    have hin : inB (o : Int) 0 ((n : Int) - 1) = true := by unfold inB; simp; omega
    have cS : ∀ d os, Calls Tryz.prog 30 #[.agg #[.int .i64 z, .slice a n cap], .int .i64 (o : Int)] (Go.Sort.grow (redrawn wA d) os) fun e w'' => e = .returned (.bool true) ∧ ∃ p : Regrown, w'' = Go.Sort.grow (redrawn wA p.d) p.os := fun d os => Calls.regrown_of (by have h9 := hasSquare_any z a n cap (o : Int) (Go.Sort.grow (redrawn wA d) os); rw [hin] at h9; exact h9)
    obtain ⟨_, A, C, hx, ht⟩ := HS.out
    obtain ⟨b, off, rfl, _, hb, hc⟩ := hx.2 (by omega)
    obtain ⟨y0, _, _⟩ := sq_cells hc (Below.refl wA.heap.size wA) (show b < wA.heap.size by have := hx.1; omega) hon
    have k2 := cell_regrown y0
    have hol : (sqAt t.qs o).1.length ≤ 8 := HL8.out _ (sqAt_mem (by rw [HL.out]; exact hon))
    obtain ⟨lo, hlo⟩ : ∃ lo, lo = (sqAt t.qs o).1.length := ⟨_, rfl⟩
    rw [← hlo] at k2 y0 HR hol
    rw [ho]
    clear hlo hc hx ht hin ho h0 hop
    go_enter Tryz.func46, Tryz.ntmps46
    go_upto_region 1 with fail
    rw [← hwA]
    clear hwA
    refine wp_region_quiet_below (by kernel_rfl) (by kernel_rfl) ?_
    repeat (go_big_quiet_step ((go_at_call 30; exact cS _ _)))
    refine wpQuiet_nil ?_
    intro _ hw'
    obtain ⟨⟨dq, osq⟩, hw''⟩ := hw'
    subst hw''
    have HBQ := hide (below_here HBA.out (below_regrown wA dq osq))
    go_wp2_with fail
    go_ret
    exact ⟨ret_bool HR.out.symm, HBQ.out⟩
  · have HR : Hid (roomy z t = false) := by show _ = _; unfold roomy; rw [show decide (0 ≤ t.op) = false by simpa using h0]; rfl
    have hin : inB t.op 0 ((n : Int) - 1) = false := by unfold inB; rw [show decide (0 ≤ t.op) = false by simpa using h0]; rfl
    have cS : ∀ d os, Calls Tryz.prog 30 #[.agg #[.int .i64 z, .slice a n cap], .int .i64 t.op] (Go.Sort.grow (redrawn wA d) os) fun e w'' => e = .returned (.bool false) ∧ ∃ p : Regrown, w'' = Go.Sort.grow (redrawn wA p.d) p.os := fun d os => Calls.regrown_of (by have h9 := hasSquare_any z a n cap t.op (Go.Sort.grow (redrawn wA d) os); rw [hin] at h9; exact h9)
    clear hin h0
    go_enter Tryz.func46, Tryz.ntmps46
    go_upto_region 1 with fail
    rw [← hwA]
    clear hwA
    refine wp_region_quiet_below (by kernel_rfl) (by kernel_rfl) ?_
    repeat (go_big_quiet_step ((go_at_call 30; exact cS _ _)))
    refine wpQuiet_nil ?_
    intro _ hw'
    obtain ⟨⟨dq, osq⟩, hw''⟩ := hw'
    subst hw''
    have HBQ := hide (below_here HBA.out (below_regrown wA dq osq))
    go_wp2_with fail
    go_ret
    exact ⟨ret_bool HR.out.symm, HBQ.out⟩

set_option maxHeartbeats 3200000 in
theorem makeRoom_any (B pk : Nat) (z st : Int) (n g c gm cm : Nat) (A : Nat → Option Addr) (C : Nat → Nat) (V : Value) (s : Kp) (aN : Addr) (w : World) (h : KeeperAt B w pk z st n g c gm cm A C V s aN) (hB : B ≤ w.heap.size) (hK : KOk z s) (hjs : s.js.length ≤ 1000) :
    Calls Tryz.prog 35 #[.pointer (some ⟨pk, 0, none⟩)] w fun e w' => IPost (roomK z 20 s) (.tuple #[]) (fun _ => True) B pk z st n g c gm cm aN w e w' := by
  have hnl := h.mem.sq.len
  have hn12 : n ≤ 12 := by have := (chipOk_parts hK.map.chip).2.2.2.1; omega
  have HNL := hide hnl
  have HK := hide hK
  have H0 := hide h
  clear h hK hnl
  go_enter Tryz.func35, Tryz.ntmps35
  go_wp2_with fail
  go_loopw [2] (fun i wr => ∃ (k : Nat) (t : Kp) (A : Nat → Option Addr) (C : Nat → Nat) (V : Value), k ≤ 20 ∧ i = .int .i64 (k : Int) ∧ roomK z 20 s = roomK z (20 - k) t ∧ KOk z t ∧ t.qs.length = n ∧ t.js.length ≤ s.js.length + 513 * k ∧ KeeperAt B wr pk z st n g c gm cm A C V t aN ∧ Frame B [g, pk, gm] w wr) (fun i _ => 21 - (intOf i).toNat)
  case atStart => exact ⟨0, s, A, C, V, Nat.zero_le _, rfl, rfl, HK.out, HNL.out, by omega, H0.out, Frame.refl _ _ _⟩
  case round =>
    obtain ⟨k, t, A, C, V, hk, rfl, hrm, hKT, htq, hjl, hat, hfr⟩ := hrel
    have HRM := hide hrm
    have HKT := hide hKT
    have HAT := hide hat
    have HFR := hide hfr
    have hsz := hfr.below.size
    have hhi := hKT.hi
    rw [htq] at hhi
    have HL8 : Hid (∀ q ∈ t.qs, q.1.length ≤ 8) := fun q hq => by have h1 := (sqOk_parts ((chipOk_parts hKT.map.chip).2.2.2.2 q hq)).1; have h2 := (chipOk_parts hKT.map.chip).2.1; omega
    obtain ⟨x0, x1, x2, x3, x4, x5⟩ := six_cells hat.box
    have cR : ∀ W, Hid (Below wr.heap.size wr W → Calls Tryz.prog 46 #[.agg #[.int .i64 z, .slice (some ⟨g, 0, none⟩) n c], .int .i64 t.op] W fun e w'' => e = .returned (.bool (roomy z t)) ∧ Below W.heap.size W w'') := fun W hb => hasRoom_any z (some ⟨g, 0, none⟩) n c t W ((HAT.out.later hb (by omega)).mem.sq.ownS.squares) (Nat.le_refl _) hn12 HL8.out hhi
    clear hrm hKT hat hfr
    go_upto_region 1 with fail
    refine wp_region_quiet_tail 8 (by kernel_rfl) (by kernel_rfl) ?_
    simp only [List.take_succ_cons, List.take_zero, List.drop_succ_cons, List.drop_zero]
    repeat (go_big_quiet_step (fail))
    refine wpQuiet_nil ?_
    rintro _ ⟨nq, rfl⟩
    have HBQ : Hid (Below wr.heap.size wr (wr.drewN nq)) := ⟨rfl, rfl, rfl, Nat.le_refl _, fun _ _ => rfl⟩
    generalize wr.drewN nq = wq at *
    go_wp2_with fail
    refine ((cR _).out HBQ.out).mono ?_
    rintro e w1 ⟨rfl, b1⟩
    have HB1 := hide (below_here HBQ.out b1)
    have HA1 := hide (HAT.out.later HB1.out (by omega))
    have HF1 := hide (HFR.out.on HB1.out (by omega))
    have hs1 := HB1.out.size
    clear b1 x0 x1 x2 x3 x4 x5 cR
    have er1 := HA1.out.er
    unfold noRoomV at er1
    cases hro : roomy z t with
    | true =>
      have HE : Hid (roomK z 20 s = some t) := by show _ = _; rw [HRM.out]; exact roomK_yes hro _
      go_wp2_with fail
      go_end0
      unfold IPost
      rw [HE.out]
      exact ⟨HF1.out, rfl, A, C, V, HA1.out, trivial⟩
    | false =>
      by_cases hk20 : k = 20
      · subst hk20
        have HE : Hid (roomK z 20 s = none) := by show _ = _; rw [HRM.out]; exact roomK_end hro
        simp only [show ((20 : Nat) : Int) = 20 from rfl]
        go_wp2_with fail
        refine ⟨rfl, ?_⟩
        unfold IPost
        rw [HE.out]
        exact ⟨HF1.out, rfl⟩
      · have g1 : ((k : Int) == 20) = false := by simpa using (show (k : Int) ≠ 20 by omega)
        have HN : Hid (roomK z 20 s = (stepK z t).bind (roomK z (19 - k))) := by show _ = _; rw [HRM.out, show 20 - k = (19 - k) + 1 by omega]; exact roomK_next hro _
        clear hro HRM er1
        go_wp2_with fail
        refine (stepToRoom_any B pk z st n g c gm cm A C V t aN w1 HA1.out (by omega) HKT.out (by omega)).mono ?_
        rintro e w2 ⟨hf2, hk2⟩
        have HF2 := hide (HF1.out.trans hf2)
        clear hf2
        cases hst : stepK z t with
        | none =>
          have HE : Hid (roomK z 20 s = none) := by show _ = _; rw [HN.out, hst]; rfl
          rw [hst] at hk2
          dsimp only at hk2
          subst hk2
          unfold noRoomV
          go_wp2_with fail
          refine ⟨rfl, ?_⟩
          unfold IPost
          rw [HE.out]
          exact ⟨HF2.out, rfl⟩
        | some t1 =>
          have HE : Hid (roomK z 20 s = roomK z (20 - (k + 1)) t1) := by show _ = _; rw [HN.out, hst, show 20 - (k + 1) = 19 - k by omega]; rfl
          rw [hst] at hk2
          dsimp only at hk2
          obtain ⟨rfl, A2, C2, V2, hA2, _⟩ := hk2
          have HA2 := hide hA2
          have HSO := hide (stepK_ok HKT.out hst)
          have hsl := stepK_len HKT.out hst
          clear hA2 hst
          go_wp2_with fail
          go_roundw
          case rel => exact ⟨k + 1, t1, A2, C2, V2, by omega, by go_num, HE.out, HSO.out.ok, HSO.out.squares.trans htq, by omega, HA2.out, HF2.out⟩
          case measure => simp [intOf]; omega
end Go.Proofs.YtkpfdgceelmijaaGreatDoor
