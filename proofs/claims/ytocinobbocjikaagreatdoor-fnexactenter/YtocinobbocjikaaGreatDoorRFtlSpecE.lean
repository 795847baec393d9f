/- The model's l10Move: the live pages of a Square go behind those of Open. -/
import Derived.Test.YtocinobbocjikaaGreatDoorRFtlSpecD
import Derived.Test.YtocinobbocjikaaGreatDoorRWearLaw
import Derived.Test.YtocinobbocjikaaGreatDoorRQuietTail
import Derived.BigRegion
import Derived.BigQuiet
namespace Go.Proofs.YtocinobbocjikaaGreatDoor
open Go.RowKit
set_option linter.unusedVariables false
set_option maxRecDepth 20000

theorem FtlAt.apart {B px pj n g c gm cm : Nat} {w : World} {z st : Int} {A : Nat → Option Addr} {C : Nat → Nat} {V : Value} {s : Kp} (h : FtlAt B w px pj z st n g c gm cm A C V s) : gm ≠ px ∧ gm ≠ pj ∧ px ≠ pj := by
  obtain ⟨cs, fz, hk⟩ := h.mem.kind
  refine ⟨fun e => ?_, fun e => ?_, fun e => ?_⟩
  · rw [e, h.ftl] at hk
    simp only [Option.some.injEq, Obj.cells.injEq] at hk
    exact absurd hk.2.1 (by decide)
  · rw [e, h.jobs] at hk
    simp only [Option.some.injEq, Obj.cells.injEq] at hk
    exact absurd hk.2.1 (by decide)
  · have := h.ftl
    rw [e, h.jobs] at this
    simp only [Option.some.injEq, Obj.cells.injEq] at this
    exact absurd this.2.1 (by decide)
theorem FtlAt.led {B px pj n g c gm cm : Nat} {w : World} {z st : Int} {A : Nat → Option Addr} {C : Nat → Nat} {V : Value} {s : Kp} (h : FtlAt B w px pj z st n g c gm cm A C V s) {i : Nat} (hi : i < s.ps.length) (x : Pl) :
    FtlAt B ((w.setCell ⟨gm, i * 2, none⟩ (.int .i64 x.1)).setCell ⟨gm, i * 2 + 1, none⟩ (.int .i64 x.2)) px pj z st n g c gm cm A C V ⟨s.qs, s.ps.set i x, s.op, s.js⟩ := by
  obtain ⟨h1, h2, h3⟩ := h.apart
  refine ⟨h.mem.led hi x, ?_, set_other (set_other h.jobs h2 _) h2 _, h.nx, h.nj, h.bx, h.bj⟩
  dsimp only
  rw [List.length_set]
  exact set_other (set_other h.ftl h1 _) h1 _
theorem FtlAt.bound {B px pj n g c gm cm : Nat} {w : World} {z st : Int} {A : Nat → Option Addr} {C : Nat → Nat} {V : Value} {s : Kp} (h : FtlAt B w px pj z st n g c gm cm A C V s) : px < w.heap.size ∧ pj < w.heap.size ∧ g < w.heap.size ∧ gm < w.heap.size ∧ B ≤ gm ∧ B ≤ g := by
  obtain ⟨cs, fz, hk⟩ := h.mem.kind
  exact ⟨(Array.getElem?_eq_some_iff.1 h.ftl).1, (Array.getElem?_eq_some_iff.1 h.jobs).1, by have := h.mem.sq.row.1; omega, (Array.getElem?_eq_some_iff.1 hk).1, (World.ownsRow.lt h.mem.pl gm rfl).1, h.mem.sq.atG⟩
theorem putK_of {z : Int} {s : Kp} {i : Nat} {tx : ByteArray} : putK z s i tx = (doK z s (1, s.op, tx)).map fun s' => ⟨s'.qs, s'.ps.set i (nextP s), s'.op, s'.js⟩ := rfl

set_option maxHeartbeats 3200000 in
theorem l10Move_any (B px pj : Nat) (z st : Int) (n g c gm cm : Nat) (A : Nat → Option Addr) (C : Nat → Nat) (V : Value) (s : Kp) (v : Nat) (w : World) (h : FtlAt B w px pj z st n g c gm cm A C V s) (hB : B ≤ w.heap.size) (hK : KOk z s) (o : Nat) (ho : s.op = (o : Int)) (hv : (v : Int) ≠ s.op) (hvl : v < s.qs.length) (hjs : s.js.length ≤ 100000) :
    Calls Tryz.prog 134 #[.pointer (some ⟨px, 0, none⟩), .pointer (some ⟨pj, 0, none⟩), .int .i64 (v : Int)] w fun e w' => FPost (moveK z v s) B px pj z st n g c gm cm w e w' := by
  have hL : (sqAt s.qs v).1.length ≤ 8 := by
    have h1 := (sqOk_parts (chipOk_at hK.map.chip hvl)).1
    have h2 := (chipOk_parts hK.map.chip).2.1
    omega
  have hm64 := hK.map.few
  have hnl := h.mem.sq.len
  have hn12 : n ≤ 12 := by have := (chipOk_parts hK.map.chip).2.2.2.1; omega
  have hvn : v < n := by omega
  have hon : o < n := by have := hK.hi; omega
  obtain ⟨L, hLe⟩ : ∃ L, L = (sqAt s.qs v).1.length := ⟨_, rfl⟩
  obtain ⟨m, hme⟩ : ∃ m, m = s.ps.length := ⟨_, rfl⟩
  have HLE := hide hLe
  have HME := hide hme
  rw [← hLe] at hL
  rw [← hme] at hm64
  clear hLe hme
  have HK := hide hK
  have H0 := hide h
  have HO := hide ho
  have HV := hide hv
  clear h hK ho hv
  have hgx := H0.out.ftl
  go_enter Tryz.func134, Tryz.ntmps134
  go_wp2_with fail
  go_loopw [7] (fun i wr => ∃ (k : Nat) (t : Kp) (A : Nat → Option Addr) (C : Nat → Nat) (V : Value), k ≤ L ∧ i = .int .i64 (k : Int) ∧ moveP z v s k = some t ∧ FtlAt B wr px pj z st n g c gm cm A C V t ∧ Frame B [g, px, pj, gm] w wr) (fun i _ => L - (intOf i).toNat)
  case atStart => exact ⟨0, s, A, C, V, Nat.zero_le _, rfl, rfl, H0.out, Frame.refl _ _ _⟩
  case round =>
    obtain ⟨k, t, A, C, V, hk, rfl, hmv, hat, hfr⟩ := hrel
    have hMV := moveP_moved HK.out HV.out hmv
    have hln := (moveP_len hmv).1
    have htm : t.ps.length = m := hMV.places.trans HME.out.symm
    have htq : t.qs.length = n := hMV.squares.trans hnl
    have hsv : sqAt t.qs v = sqAt s.qs v := hMV.other v HV.out
    have hsz := hfr.below.size
    have HMV := hide hmv
    have HAT := hide hat
    have HFR := hide hfr
    have HKT := hide hMV.ok
    have hop : t.op = (o : Int) := hMV.op.trans HO.out
    have HOP := hide hop
    obtain ⟨x0, x1, x2, x3, x4⟩ := five_cells hat.ftl
    obtain ⟨y0, _, _⟩ := hat.mem.sq.cells hvn
    rw [hsv, ← HLE.out] at y0
    have hvi : (v : Int) < (n : Int) := by omega
    by_cases hlt : k < L
    · have hlt2 : (k : Int) < (L : Int) := by omega
      obtain ⟨wo, hwo⟩ : ∃ wo, wo = wr := ⟨_, rfl⟩
      subst hwo
      clear hmv hat hfr
      go_wp2_with fail
      go_loopw [8] (fun i wr => ∃ (j : Nat) (u : Kp) (A : Nat → Option Addr) (C : Nat → Nat) (V : Value), j ≤ m ∧ i = .int .i64 (j : Int) ∧ moveI z v k t j = some u ∧ FtlAt B wr px pj z st n g c gm cm A C V u ∧ Frame B [g, px, pj, gm] w wr) (fun i _ => m - (intOf i).toNat)
      case atStart => exact ⟨0, t, A, C, V, Nat.zero_le _, rfl, rfl, HAT.out, HFR.out⟩
      case round =>
        obtain ⟨j, u, A, C, V, hj, rfl, hmv, hat, hfr⟩ := hrel
        obtain ⟨hKU, hU1, hU2, hU3, hU4⟩ := moveI_part HKT.out (by rw [HOP.out, ← HO.out]; exact HV.out) (by omega) hmv
        have hlu := (moveI_len hmv).1
        have hum : u.ps.length = m := hU3.trans htm
        have huq : u.qs.length = n := hU2.trans htq
        have huv : sqAt u.qs v = sqAt s.qs v := (hU4 v (by rw [HOP.out, ← HO.out]; exact HV.out)).trans hsv
        have huo : u.op = (o : Int) := hU1.trans HOP.out
        have hsz2 := hfr.below.size
        have HMV2 := hide hmv
        have HAT2 := hide hat
        have HFR2 := hide hfr
        have HKU := hide hKU
        clear x0 x1 x2 x3 x4 y0
        obtain ⟨x0, x1, x2, x3, x4⟩ := five_cells hat.ftl
        rw [huo] at x3
        rw [hum] at x2
        by_cases hjl : j < m
        · have hjl2 : (j : Int) < (m : Int) := by omega
          obtain ⟨p0, p1, f0, f1⟩ := hat.mem.cells (i := j) (by omega)
          have q2 := Tryz.guardPl
          by_cases heq : plAt u.ps j = ((v : Int), (k : Int))
          · have HST := hide (moveI_step_yes hmv heq)
            rw [heq] at p0 p1
            have q1 := Tryz.eqPl (v : Int) (k : Int) (v : Int) (k : Int)
            rw [show (((v : Int) == (v : Int)) && ((k : Int) == (k : Int))) = true by simp] at q1
            obtain ⟨z0, _, _⟩ := hat.mem.sq.cells hon
            obtain ⟨y0, _, _⟩ := hat.mem.sq.cells hvn
            have hpo := hat.mem.sq.pages.own v hvn
            have hpl : (sqAt u.qs v).1.length = L := by rw [huv]; exact HLE.out.symm
            obtain ⟨pb, hpb⟩ : ∃ pb, A v = some ⟨pb, 0, none⟩ := by
              rcases pg_form hpo with ⟨_, e, _⟩ | ⟨pb, e, _⟩
              · rw [e] at hpl; simp at hpl; omega
              · exact ⟨pb, e⟩
            have hck : wr.cell? ⟨pb, k, none⟩ = some (.string (txAt u.qs v k)) := by
              rw [hpb] at hpo
              rw [World.ownsRow.cellAt hpo k (by omega)]
              unfold pgV txAt
              rw [List.getElem?_map, List.getD_eq_getElem?_getD, List.getElem?_eq_getElem (by omega)]
              rfl
            have htz : (txAt u.qs v k).size ≤ 200 := by
              have h1 := (sqOk_parts (chipOk_at hKU.map.chip (show v < u.qs.length by omega))).2.2.2
              refine (h1 (txAt u.qs v k) ?_).2
              unfold txAt
              rw [List.getD_eq_getElem?_getD, List.getElem?_eq_getElem (by omega)]
              exact List.getElem_mem _
            rw [hpl, hpb] at y0
            have hol : (sqAt u.qs o).1.length ≤ 8 := by
              have h1 := (sqOk_parts (chipOk_at hKU.map.chip (show o < u.qs.length by omega))).1
              have h2 := (chipOk_parts hKU.map.chip).2.1
              omega
            have hoi : (o : Int) < (n : Int) := by omega
            have HNX : Hid (nextP u = ((o : Int), ((sqAt u.qs o).1.length : Int))) := by show _ = _; unfold nextP; rw [huo, Int.toNat_natCast]
            have HDK : Hid (putK z u j (txAt u.qs v k) = (doK z u (1, (o : Int), txAt u.qs v k)).map fun s' => ⟨s'.qs, s'.ps.set j (nextP u), s'.op, s'.js⟩) := by show _ = _; rw [putK_of, huo]
            obtain ⟨bd1, bd2, bd3, bd4, bd5, bd6⟩ := hat.bound
            have HCK := hide hKU.map.chip
            obtain ⟨tx, htx⟩ : ∃ tx, tx = txAt u.qs v k := ⟨_, rfl⟩
            rw [← htx] at hck htz HDK HST
            clear htx
            obtain ⟨lo, hlo⟩ : ∃ lo, lo = (sqAt u.qs o).1.length := ⟨_, rfl⟩
            rw [← hlo] at z0 hol HNX
            clear hlo hmv hat hfr hKU heq hpo hpb
            go_upto_region 8 with fail
            go_cut [9] (fun d wx => ∃ g', d = .pointer (some ⟨g', 0, none⟩) ∧ wr.heap.size ≤ g' ∧ wx.heap[g']? = some (.cells #[.int .i64 (o : Int), .int .i64 (lo : Int)] 79) ∧ Below wr.heap.size wr wx)
            case first =>
              have HBX : Hid (Below wr.heap.size wr (wr.alloc (.cells #[.int .i64 (o : Int), .int .i64 (lo : Int)] 79)).drew) := ((Below.refl wr.heap.size wr).alloc (Nat.le_refl _) _).drew
              go_region
              go_wp2_with fail
              go_meet
              exact ⟨_, rfl, Nat.le_refl _, heap_new wr _, HBX.out⟩
            case rest =>
              obtain ⟨tb, rfl, htb, htc, hbw⟩ := hcut
              obtain ⟨w4, hw4⟩ : ∃ w4, w4 = wc := ⟨_, rfl⟩
              subst hw4
              have HTC := hide htc
              have HAT4 := hide (HAT2.out.later hbw)
              have HFR4 := hide (HFR2.out.on hbw (by omega))
              have hs4 := hbw.size
              obtain ⟨a0, a1, a2, a3, a4⟩ := five_cells HAT4.out.ftl
              rw [huo] at a3
              rw [hum] at a2
              have b0 := (hbw.cell (p := ⟨g, v * 3, none⟩) bd3).trans y0
              have hpbl : pb < wr.heap.size := World.block_lt_of_cell? _ _ hck
              have b1 := (hbw.cell (p := ⟨pb, k, none⟩) hpbl).trans hck
              clear x0 x1 x2 x3 x4 y0 z0 p0 p1 f0 f1 hck htc hbw q1 q2
              have HCL : ∀ w', Hid (Below w4.heap.size w4 w' → Calls Tryz.prog 95 #[.pointer (some ⟨px, 0, none⟩), .pointer (some ⟨pj, 0, none⟩), .agg #[.int .i64 1, .int .i64 (o : Int), .string tx]] w' fun e w'' => FPost (doK z u (1, (o : Int), tx)) B px pj z st n g c gm cm w' e w'') := fun w' hb' =>
                l10Do_any B px pj z st n g c gm cm A C V u 1 (o : Int) tx w' (HAT4.out.later hb') (by have := hb'.size; omega) HCK.out (by unfold maxLen; omega) (by rw [← HME.out] at hln; have : k * m ≤ 8 * 64 := Nat.mul_le_mul (by omega) hm64; omega)
              go_upto_region 9 with fail
              refine wp_region_quiet_tail 19 (by kernel_rfl) (by kernel_rfl) ?_
              simp only [List.take_succ_cons, List.take_zero, List.drop_succ_cons, List.drop_zero]
              repeat (go_big_quiet_step (fail))
              refine wpQuiet_nil ?_
              rintro _ ⟨nq, rfl⟩
              have HBQ : Hid (Below w4.heap.size w4 (w4.drewN nq)) := ⟨rfl, rfl, rfl, Nat.le_refl _, fun _ _ => rfl⟩
              generalize w4.drewN nq = wq at *
              go_wp2_with fail
              refine ((HCL _).out HBQ.out).mono ?_
              rintro e w5 ⟨rfl, hf5, hk5⟩
              have HF5 := hide ((HFR4.out.on HBQ.out (by omega)).trans hf5)
              have HT5 := hide (hf5.other tb _ _ _ (by simp; omega) (by decide) (by decide) (block_on HTC.out HBQ.out))
              have HK5 := hide hk5
              clear hf5 hk5 a0 a1 a2 a3 a4 b0 b1 HCL
              cases hd : doK z u (1, (o : Int), tx) with
              | none =>
                have HE : Hid (moveK z v s = none) := by
                  show moveP z v s _ = _
                  rw [hd] at HDK
                  rw [← HLE.out]
                  refine moveP_fall (k := k + 1) ?_ (by omega)
                  rw [moveP_step HMV.out, htm]
                  exact moveI_fall (k := j + 1) (by rw [HST.out, HDK.out]; rfl) (by omega)
                rw [Option.isSome_none]
                go_wp2_with fail
                go_ret
                exact ⟨by rw [HE.out]; rfl, HF5.out, fun s' hs' => by rw [HE.out] at hs'; cases hs'⟩
              | some u1 =>
                obtain ⟨A5, C5, V5, hA5⟩ := HK5.out u1 hd
                obtain ⟨h1, h2⟩ := doK_op hd
                have hu1 : u1.ps.length = m := by rw [h2]; exact hum
                have HS1 : Hid (moveI z v k t (j + 1) = some ⟨u1.qs, u1.ps.set j ((o : Int), (lo : Int)), u1.op, u1.js⟩) := by show _ = _; rw [HST.out, HDK.out, hd, HNX.out]; rfl
                have HL := hide (hA5.led (i := j) (by omega) ((o : Int), (lo : Int)))
                have HFL := hide ((HF5.out.set (p := gm) (by simp) bd5 (j * 2) (.int .i64 (o : Int))).set (p := gm) (by simp) bd5 (j * 2 + 1) (.int .i64 (lo : Int)))
                obtain ⟨e0, e1, e2, e3, e4⟩ := five_cells hA5.ftl
                rw [hu1] at e2
                obtain ⟨t0, t1⟩ := two_cells HT5.out
                obtain ⟨p0, p1, f0, f1⟩ := hA5.mem.cells (i := j) (by omega)
                clear hA5 hd
                rw [Option.isSome_some]
                go_upto_region 11 with fail
                refine wp_region_quiet_tail 7 (by kernel_rfl) (by kernel_rfl) ?_
                simp only [List.take_succ_cons, List.take_zero, List.drop_succ_cons, List.drop_zero]
                repeat (go_big_quiet_step (fail))
                refine wpQuiet_nil ?_
                rintro _ ⟨nq', rfl⟩
                go_wp2_with fail
                go_roundw
                case rel => exact ⟨j + 1, _, A5, C5, V5, by omega, by go_num, HS1.out, HL.out.later ⟨rfl, rfl, rfl, Nat.le_refl _, fun _ _ => rfl⟩, HFL.out.on ⟨rfl, rfl, rfl, Nat.le_refl _, fun _ _ => rfl⟩ (by have := HFL.out.below.size; omega)⟩
                case measure => simp [intOf]; omega
          · have HNO := hide (moveI_step_no hmv heq)
            have hne : (((plAt u.ps j).1 == (v : Int)) && ((plAt u.ps j).2 == (k : Int))) = false := by
              cases hh : (((plAt u.ps j).1 == (v : Int)) && ((plAt u.ps j).2 == (k : Int))) with
              | false => rfl
              | true =>
                simp only [Bool.and_eq_true, beq_iff_eq] at hh
                exact absurd (Prod.ext hh.1 hh.2) heq
            clear hmv hat hfr hKU heq
            generalize plAt u.ps j = y at *
            obtain ⟨a1, a2⟩ := y
            dsimp only at p0 p1 hne
            have q1 := Tryz.eqPl a1 a2 (v : Int) (k : Int)
            rw [hne] at q1
            go_wp2_with fail
            go_roundw
            case rel => exact ⟨j + 1, u, A, C, V, by omega, by go_num, HNO.out, HAT2.out, HFR2.out⟩
            case measure => simp [intOf]; omega
        · obtain rfl : j = m := by omega
          have HST : Hid (moveP z v s (k + 1) = some u) := by show _ = _; rw [moveP_step HMV.out, htm]; exact hmv
          clear hmv hat hfr
          go_wp2_with fail
          exact ⟨⟨k + 1, u, A, C, V, by omega, by go_num, HST.out, HAT2.out, HFR2.out⟩, by simp [intOf]; omega⟩
    · obtain rfl : k = L := by omega
      have HE : Hid (moveK z v s = some t) := by show moveP z v s _ = _; rw [← HLE.out]; exact hmv
      clear hmv hat hfr
      go_wp2_with fail
      go_ret
      exact ⟨by rw [HE.out]; rfl, HFR.out, fun s' hs' => by rw [HE.out] at hs'; simp only [Option.some.injEq] at hs'; subst hs'; exact ⟨_, _, _, HAT.out⟩⟩
end Go.Proofs.YtocinobbocjikaaGreatDoor
