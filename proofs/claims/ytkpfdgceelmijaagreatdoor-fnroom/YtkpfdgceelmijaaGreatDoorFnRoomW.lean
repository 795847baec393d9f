/- For every code the law FnRoom returns true and leaves its argument as it was; the package-level variables that its row lists read as they are laid. -/
import Derived.Test.YtkpfdgceelmijaaGreatDoorRows
import Derived.Test.YtkpfdgceelmijaaGreatDoorQLawBase
import Derived.Test.YtkpfdgceelmijaaGreatDoorQReadByte
import Derived.Test.YtkpfdgceelmijaaGreatDoorQPageMath
import Derived.Test.YtkpfdgceelmijaaGreatDoorQFtlOwnP
import Derived.Test.YtkpfdgceelmijaaGreatDoorQFtlNew
import Derived.Test.YtkpfdgceelmijaaGreatDoorQFtlImplI
import Derived.Test.YtkpfdgceelmijaaGreatDoorQFtlImplA
import Derived.Test.YtkpfdgceelmijaaGreatDoorQLyLaid
import Derived.Deep.RegionWith
import Derived.WalkKit
import Derived.ProofKit
import Derived.OpenShut
import Derived.ShutString
import Derived.ChangeOld
import Derived.Below
namespace Go.Proofs.YtkpfdgceelmijaaGreatDoor.fnRoom
open Go.ChangeShapes Go.WideShapes Go.ChangeAt Go.RowKit
open Go.ChangeMaps (open_string shut_string)
set_option linter.unusedVariables false

theorem own : ownKnob Tryz.prog.godebug = none := by kernel_rfl
theorem laidOut : laidOutB Tryz.prog = true := by kernel_rfl

theorem cell_lt {w : World} {b o : Nat} {v : Value} (h : w.cell? ⟨b, o, none⟩ = some v) : b < w.heap.size := by
  rcases Nat.lt_or_ge b w.heap.size with hc | hc
  · exact hc
  · unfold World.cell? at h
    have : w.heap[b]? = none := Array.getElem?_eq_none_iff.2 (by omega)
    simp [this] at h
set_option maxHeartbeats 8000000 in
set_option maxRecDepth 100000 in

theorem walk (a0 : Option Addr) (len0 cap0 : Nat) (z0 : List UInt8) (w : World) (w0 : Bytes 0 w.heap.size w a0 len0 z0 ∧ len0 ≤ maxLen) (hT : Tab w) {aB aL aS aC aF : Addr} (E : Errs w aB aL aS aC aF) {aN : Addr} (hN : w.cell? ⟨1, 0, none⟩ = some (.iface 198 (.pointer (some aN)))) :
    Calls Tryz.prog 3 #[.slice a0 len0 cap0] w fun e w' => e = .returned (.bool true) ∧ Below w.heap.size w w' := by
  obtain ⟨hA, hlen0⟩ := w0
  have hlen : len0 ≤ 9223372036854775807 := by unfold maxLen at hlen0; omega
  clear hlen0
  by_cases hbig : 4096 < len0
  · have hb' : decide (4096 < len0) = true := by simpa using hbig
    go_enter Tryz.func3, Tryz.ntmps3
    go_wp2_with fail
    refine (big_any a0 len0 cap0 w hlen).mono ?_
    rintro e w1 ⟨rfl, rfl⟩
    go_wp2_with fail
    go_ret
    exact ⟨rfl, Below.refl _ _⟩
  · have hb' : decide (4096 < len0) = false := by simpa using hbig
    have hn4 : len0 ≤ 4096 := by omega
    clear hbig
    have HA := hide hA
    have HT := hide hT
    have HE := hide E
    have hgN : 1 < w.heap.size := cell_lt hN
    have HN0 : ∀ w9, Hid (Below w.heap.size w w9 → w9.cell? ⟨1, 0, none⟩ = some (noRoomV aN)) := fun w9 h9 => (h9.cell (p := ⟨1, 0, none⟩) hgN).trans hN
    clear hA hT E hN hgN
    go_enter Tryz.func3, Tryz.ntmps3
    go_wp2_with fail
    refine (big_any a0 len0 cap0 w hlen).mono ?_
    rintro e w1 ⟨rfl, rfl⟩
    go_wp2_with fail
    refine (pick_any a0 len0 cap0 z0 1 4 w HA.out hn4 (by omega) (by omega) (by omega) (by omega)).mono ?_
    rintro e w1 ⟨x1, rfl, hx1, hx1', rfl⟩
    go_upto_region 4 with fail
    obtain ⟨Q, hQ⟩ : ∃ Q : Nat, 3 + x1 = (Q : Int) := ⟨(3 + x1).toNat, by omega⟩
    rw [hQ]
    have hQ3 : 3 ≤ Q := by omega
    have hQ6 : Q ≤ 6 := by omega
    clear hQ
    go_wp2_with fail
    refine (pick_any a0 len0 cap0 z0 2 4 w HA.out hn4 (by omega) (by omega) (by omega) (by omega)).mono ?_
    rintro e w1 ⟨x2, rfl, hx2, hx2', rfl⟩
    go_upto_region 5 with fail
    obtain ⟨Z, hZ⟩ : ∃ Z : Nat, 1 + x2 = (Z : Int) := ⟨(1 + x2).toNat, by omega⟩
    rw [hZ]
    have hZ1 : 1 ≤ Z := by omega
    have hZ4 : Z ≤ 4 := by omega
    clear hZ
    obtain ⟨m, hm⟩ : ∃ m : Nat, m = (Q - 2) * Z := ⟨_, rfl⟩
    have hm1 : 1 ≤ m := by rw [hm]; exact Nat.mul_pos (by omega) (by omega)
    have hm2 : m ≤ 16 := by rw [hm]; exact Nat.le_trans (Nat.mul_le_mul (show Q - 2 ≤ 4 by omega) hZ4) (by omega)
    have hmI : ((Q : Int) - 2) * (Z : Int) = (m : Int) := by rw [hm, Int.natCast_mul, Int.ofNat_sub (by omega)]; rfl
    have hmw : IntKind.i64.wrap (((Q : Int) - 2) * (Z : Int)) = (m : Int) := by rw [hmI, IntKind.wrap_i64]; omega
    have HMI := hide hmI
    clear hm hmI
    go_wp2_with fail
    refine (pick_any a0 len0 cap0 z0 3 (m : Int) w HA.out hn4 (by omega) (by omega) (by omega) (by omega)).mono ?_
    rintro e w1 ⟨x3, rfl, hx3, hx3', rfl⟩
    go_upto_region 6 with fail
    obtain ⟨N, hN⟩ : ∃ N : Nat, 1 + x3 = (N : Int) := ⟨(1 + x3).toNat, by omega⟩
    rw [hN]
    have hN1 : 1 ≤ N := by omega
    have hNm : N ≤ m := by omega
    clear hN hmw
    obtain ⟨hok0, hrm0, hgt0⟩ := new_room (z := (Z : Int)) (Q := Q) (N := N) (by omega) (by omega) hQ3 (by omega) hN1 (by omega) (by rw [HMI.out]; omega)
    have HK0 := hide hok0
    have HR0 := hide hrm0
    have HG0 := hide hgt0
    clear hok0 hrm0 hgt0 HMI
    have HCN : Hid (Calls Tryz.prog 6 #[.int .i64 (Q : Int), .int .i64 (Z : Int), .int .i64 (N : Int)] w fun e w' => ∃ a c am cm, e = .returned (.tuple #[.agg #[.int .i64 (Z : Int), .slice a Q c, .slice am N cm, .int .i64 (-1), .int .i64 0], .bool true]) ∧ FtlOwn w.heap.size w'.heap.size w' a am (List.replicate Q ([], 0, false)) (List.replicate N (-1, 0)) ∧ Below w.heap.size w w' ∧ N ≤ cm) := by
      have e0 : newOk (Q : Int) (Z : Int) = true := by unfold newOk inB; simp; omega
      have e1 : nfOk (Q : Int) (Z : Int) (N : Int) = true := by unfold nfOk inB; rw [e0]; simp; omega
      have e2 : newF (Q : Int) (Z : Int) (N : Int) = ⟨(Z : Int), List.replicate Q ([], 0, false), List.replicate N (-1, 0), -1, 0⟩ := by unfold newF; rw [e1, if_pos rfl, Int.toNat_natCast]; unfold newQ; rw [e0, if_pos rfl, Int.toNat_natCast]
      refine (implNewFtl_any (Q : Int) (Z : Int) (N : Int) w).mono ?_
      rintro e w' ⟨v, rfl, a, c, am, cm, rfl, h1, h2, h3⟩
      rw [e2] at h1 h3 ⊢
      dsimp only at h1 h3
      rw [List.length_replicate] at h3
      exact ⟨a, c, am, cm, by rw [e1]; unfold fvV; dsimp only; rw [List.length_replicate, List.length_replicate], h1, h2, h3⟩
    go_wp2_with fail
    refine HCN.out.mono ?_
    rintro e w1 ⟨af, cf, amf, cmf, rfl, hof, hbf, hcf⟩
    clear HCN
    obtain ⟨wF, hwF⟩ : ∃ wF, wF = w1.alloc (.cells #[.int .i64 (Z : Int), .slice af Q cf, .slice amf N cmf, .int .i64 (-1), .int .i64 0] 30) := ⟨_, rfl⟩
    have hzF : wF.heap.size = w1.heap.size + 1 := by rw [hwF]; simp
    have HBF1 : Hid (Below w1.heap.size w1 wF) := by rw [hwF]; exact (Below.refl _ _).alloc (Nat.le_refl _) _
    have HVF : Hid (VarF w.heap.size w1.heap.size w.heap.size w1.heap.size (Z : Int) (List.replicate Q ([], 0, false)) (List.replicate N (-1, 0)) (-1) 0 af cf amf cmf wF) := by
      have h9 := varF_new (z := (Z : Int)) (op := -1) (st := 0) (c := cf) (cm := cmf) (s := w.heap.size) hof (Nat.le_refl _) hbf.size
      rw [List.length_replicate, List.length_replicate] at h9
      rw [hwF]
      exact h9
    have HBF2 := hide (below_here hbf HBF1.out)
    have hs1 := hbf.size
    clear hof hbf HBF1
    obtain ⟨bF, hbF⟩ : ∃ bF, bF = w1.heap.size := ⟨_, rfl⟩
    have hcells := HVF.out.cells
    rw [List.length_replicate, List.length_replicate] at hcells
    obtain ⟨c0, c1, c2, c3, c4⟩ := hcells
    rw [hwF] at c0 c1 c2 c3 c4
    have HZF := hide hzF
    clear hzF
    go_upto_region 7 with fail
    rw [← hwF]
    rw [← hwF] at c0 c1 c2 c3 c4
    clear hwF
    have hSQ := HVF.out.squares
    have hPL := HVF.out.places
    rw [List.length_replicate] at hSQ hPL
    have hSF := chipOk_fits (mapOk_chip (ftlOk_map HK0.out))
    go_wp2_with fail
    refine (implFtlOk_any (Z : Int) af Q cf _ amf N cmf _ (-1) 0 wF hSQ HVF.out.hi_le (by omega) hSF hPL HVF.out.hi_le (by omega) hcf (HT.out.here HBF2.out) (HE.out.here HBF2.out)).mono ?_
    rintro e w2 ⟨rfl, b2⟩
    clear c0 c1 c2 c3 c4 hSQ hPL hSF
    rw [HK0.out]
    have HV2 := hide (HVF.out.on b2)
    have HB2 := hide (below_here HBF2.out b2)
    have hs2 := b2.size
    have hzF := HZF.out
    clear b2 HVF HBF2
    have hmk := run_make_row' (P := Tryz.prog) 34 9 (.string ByteArray.empty) 16 Tryz.underlying34 Tryz.infoStrC rfl .i64 .i64 N (by omega) (by omega)
    obtain ⟨wL, hwL⟩ : ∃ wL, wL = w2.alloc (.cells (madeCells #[.string ByteArray.empty] N) 9) := ⟨_, rfl⟩
    have HL : Hid (RoomAt w w1.heap.size w2.heap.size Q N (Z : Int) 0 (List.replicate Q ([], 0, false)) (List.replicate N (-1, 0)) (-1) af cf amf cmf w.heap.size w1.heap.size (fun _ => ByteArray.empty) wL) := by
      rw [hwL]
      have hbl := (Below.refl w2.heap.size w2).alloc (Nat.le_refl _) (.cells (madeCells #[.string ByteArray.empty] N) 9)
      exact ⟨HV2.out.on hbl, by rw [List.length_replicate]; exact hcf, made_texts w2 N _, .inr (by omega), HK0.out, HR0.out, List.length_replicate, List.length_replicate, kept_new HG0.out, below_here HB2.out hbl⟩
    have HZL : Hid (wL.heap.size = w2.heap.size + 1) := by show _ = _; rw [hwL]; simp
    clear HV2 HB2 HK0 HR0 HG0
    have HBF := hide hbF
    clear hbF
    go_upto_region 10 with fail
    rw [← hwL]
    clear hwL hmk
    have hbF := HBF.out
    have hfg : bF < w2.heap.size := by omega
    obtain ⟨gL, hgL⟩ : ∃ gL, gL = w2.heap.size := ⟨_, rfl⟩
    rw [← hbF, ← hgL] at HL
    rw [← hbF, ← hgL]
    rw [← hgL] at hfg
    clear hgL hbF HBF
    go_wp2_with fail
    go_loopw [9] (fun t wr => ∃ (k : Nat) (qs : List Sq) (ps : List Pl) (op : Int) (a : Option Addr) (c : Nat) (am : Option Addr) (cm lo hi : Nat) (lst : Nat → ByteArray), k ≤ 40 ∧ t = .int .i64 (k : Int) ∧ RoomAt w bF gL Q N (Z : Int) k qs ps op a c am cm lo hi lst wr) (fun t _ => 40 - (intOf t).toNat)
    case atStart => exact ⟨0, _, _, _, _, _, _, _, _, _, _, by omega, rfl, HL.out⟩
    case round =>
      obtain ⟨k, qs, ps, op, a, c, am, cm, lo, hi, lst, hk, rfl, hRA⟩ := hrel
      have HRA := hide hRA
      clear hRA HL HZL HZF
      by_cases hlt : k < 40
      · have hlt2 : (k : Int) < 40 := by omega
        go_wp2_with fail
        refine (pick_any a0 len0 cap0 z0 (10 + (k : Int)) (N : Int) wr (HA.out.later HRA.out.below (Nat.le_refl _)) hn4 (by omega) (by omega) (by omega) (by omega)).mono ?_
        rintro e w3 ⟨x, rfl, hx0, hx1, rfl⟩
        obtain ⟨X, rfl⟩ : ∃ X : Nat, x = (X : Int) := ⟨x.toNat, by omega⟩
        have hX : X < N := by omega
        go_wp2_with fail
        refine (digits_any k (by omega) wr).mono ?_
        rintro e w3 ⟨s, rfl, hs1, hs2, b3⟩
        have HR3 := hide (HRA.out.on b3)
        clear b3 HRA
        obtain ⟨tx, htx⟩ : ∃ tx : ByteArray, tx = { data := #[116] } ++ s := ⟨_, rfl⟩
        have htz : tx.size = 1 + s.size := by rw [htx, ByteArray.size_append]; rfl
        obtain ⟨wP, hwP⟩ : ∃ wP, wP = w3.alloc (.cells #[.int .i64 1, .int .i64 (X : Int), .int .i64 0, .string tx] 37) := ⟨_, rfl⟩
        have HBP : Hid (Below w3.heap.size w3 wP) := by rw [hwP]; exact (Below.refl _ _).alloc (Nat.le_refl _) _
        have HPG : Hid (wP.heap[w3.heap.size]? = some (.cells #[.int .i64 1, .int .i64 (X : Int), .int .i64 0, .string tx] 37)) := by rw [hwP]; exact heap_new _ _
        have HZP : Hid (wP.heap.size = w3.heap.size + 1) := by show _ = _; rw [hwP]; simp
        have HRP := hide (HR3.out.on HBP.out)
        have hb3 : bF < w3.heap.size := HR3.out.var.lt
        have hg3 : gL < w3.heap.size := by have := HR3.out.row.1; omega
        clear HR3
        obtain ⟨s', hpl, hok', hrm', hln', hlq', hkp'⟩ := kept_next HRP.out.kept HRP.out.ok HRP.out.room (by omega) HRP.out.len hX (by omega) (by omega) (show 1 ≤ tx.size by omega) (by omega) (by omega)
        have HOK := hide hok'
        have HRM := hide hrm'
        have HLN := hide hln'
        have HLQ := hide hlq'
        have HKP := hide hkp'
        have hlen1 := HRP.out.len
        have hlen2 := HRP.out.lenQ
        have HCE : Hid (Calls Tryz.prog 9 #[.agg #[.int .i64 (Z : Int), .slice a Q c, .slice am N cm, .int .i64 op, .int .i64 (k : Int)], .agg #[.int .i64 1, .int .i64 (X : Int), .int .i64 0, .string tx]] wP fun e w' => ∃ a' c' am' cm', e = .returned (.tuple #[.agg #[.int .i64 (Z : Int), .slice a' s'.qs.length c', .slice am' s'.ps.length cm', .int .i64 s'.op, .int .i64 ((k : Int) + 1)], .bool true]) ∧ FtlOwn wP.heap.size w'.heap.size w' a' am' s'.qs s'.ps ∧ Below wP.heap.size wP w' ∧ s'.ps.length ≤ cm') := by
          have hSQ := HRP.out.var.squares
          have hPL := HRP.out.var.places
          rw [hlen2] at hSQ
          rw [hlen1] at hPL
          refine (implEnter_any (Z : Int) a Q c qs am N cm ps op (k : Int) 1 (X : Int) 0 tx wP hSQ HRP.out.var.hi_le (by omega) (chipOk_fits (mapOk_chip (ftlOk_map HRP.out.ok))) hPL HRP.out.var.hi_le (by omega) (by have := HRP.out.cap; omega) (HT.out.here HRP.out.below) (HE.out.here HRP.out.below) ((HN0 _).out HRP.out.below)).mono ?_
          rintro e w' ⟨v, rfl, a', c', am', cm', rfl, h1, h2, h3⟩
          have e2 : entF (Z : Int) qs ps op (k : Int) 1 (X : Int) tx = ⟨(Z : Int), s'.qs, s'.ps, s'.op, (k : Int) + 1⟩ := by
            unfold planR at hpl
            rw [HRP.out.ok, if_pos rfl] at hpl
            unfold entF
            rw [HRP.out.ok, if_pos rfl, hpl]
          rw [e2] at h1 h3 ⊢
          exact ⟨a', c', am', cm', by rw [hpl]; rfl, h1, h2, h3⟩
        clear hok' hrm' hln' hlq' hkp' hpl
        obtain ⟨c0, c1, c2, c3, c4⟩ := HRP.out.var.cells
        rw [hlen2] at c1
        rw [hlen1] at c2
        obtain ⟨p0, p1, p2, p3⟩ := four_cells HPG.out
        rw [hwP] at c0 c1 c2 c3 c4 p0 p1 p2 p3
        go_upto_region 14 with fail
        rw [← htx]
        rw [← hwP]
        rw [← hwP] at c0 c1 c2 c3 c4 p0 p1 p2 p3
        clear hwP htx
        go_wp2_with fail
        refine HCE.out.mono ?_
        rintro e w4 ⟨a', c', am', cm', rfl, ho4, b4, hc4⟩
        clear c0 c1 c2 c3 c4 p0 p1 p2 p3 HCE
        obtain ⟨wX, hwX⟩ : ∃ wX, wX = w4.alloc (.cells #[.int .i64 (Z : Int), .slice a' s'.qs.length c', .slice am' s'.ps.length cm', .int .i64 s'.op, .int .i64 ((k : Int) + 1)] 30) := ⟨_, rfl⟩
        have HB4 : Hid (Below w4.heap.size w4 wX) := by rw [hwX]; exact (Below.refl _ _).alloc (Nat.le_refl _) _
        have HXV : Hid (wX.heap[w4.heap.size]? = some (.cells #[.int .i64 (Z : Int), .slice a' s'.qs.length c', .slice am' s'.ps.length cm', .int .i64 s'.op, .int .i64 ((k : Int) + 1)] 30)) := by rw [hwX]; exact heap_new _ _
        have HRX := hide ((HRP.out.on b4).on HB4.out)
        have HPX := hide (block_on (block_on HPG.out b4) HB4.out)
        have HOX := hide (ho4.later HB4.out (Nat.le_refl _))
        have hs4 := b4.size
        clear ho4 b4 HRP HPG
        obtain ⟨y0, y1, y2, y3, y4⟩ := five_cells HXV.out
        obtain ⟨c0, c1, c2, c3, c4⟩ := HRX.out.var.cells
        have f0 := four_frozen HRX.out.var.var 0
        have f1 := four_frozen HRX.out.var.var 1
        have f2 := four_frozen HRX.out.var.var 2
        have f3 := four_frozen HRX.out.var.var 3
        have f4 := four_frozen HRX.out.var.var 4
        obtain ⟨w5, hw5⟩ : ∃ w5, w5 = (((((wX.setCell ⟨bF, 0, none⟩ (.int .i64 (Z : Int))).setCell ⟨bF, 1, none⟩ (.slice a' s'.qs.length c')).setCell ⟨bF, 2, none⟩ (.slice am' s'.ps.length cm')).setCell ⟨bF, 3, none⟩ (.int .i64 s'.op)).setCell ⟨bF, 4, none⟩ (.int .i64 ((k : Int) + 1))) := ⟨_, rfl⟩
        have HV5 : Hid (w5.heap[bF]? = some (.cells #[.int .i64 (Z : Int), .slice a' s'.qs.length c', .slice am' s'.ps.length cm', .int .i64 s'.op, .int .i64 ((k : Int) + 1)] 30)) := by rw [hw5]; exact five_set HRX.out.var.var _ _ _ _ _
        have HA5 : Hid (Aside bF (bF + 1) wX w5) := by rw [hw5]; exact five_aside (b := bF) (Aside.refl bF (bF + 1) wX) (Nat.le_refl _) (Nat.lt_succ_self _) _ _ _ _ _
        have HP5 : Hid (w5.heap[w3.heap.size]? = some (.cells #[.int .i64 1, .int .i64 (X : Int), .int .i64 0, .string tx] 37)) := (HA5.out.block _ (Array.getElem?_eq_some_iff.1 HPX.out).1 (by omega)).trans HPX.out
        have HNX := hide (HRX.out.next HA5.out HV5.out HOX.out (show bF < wP.heap.size by have := HZP.out; omega) (by have := HZP.out; omega) hfg hX hc4 HOK.out HRM.out HLN.out HLQ.out HKP.out)
        obtain ⟨hr1, hr2, _, _⟩ := (HRX.out.row.aside HA5.out (by omega)).place hX
        rw [hwX] at y0 y1 y2 y3 y4 c0 c1 c2 c3 c4 f0 f1 f2 f3 f4 hw5
        go_upto_region 18 with fail
        rw [← hw5]
        clear y0 y1 y2 y3 y4 c0 c1 c2 c3 c4 f0 f1 f2 f3 f4 hw5 hwX
        obtain ⟨p0, p1, p2, p3⟩ := four_cells HP5.out
        rw [Nat.zero_add] at hr1 hr2
        have hXN : (X : Int) < (N : Int) := by omega
        go_wp2_with fail
        exact ⟨⟨k + 1, s'.qs, s'.ps, s'.op, a', c', am', cm', _, _, _, by omega, by go_num, HNX.out⟩, by simp [intOf]; omega⟩
      · have hge : decide ((k : Int) < 40) = false := by simp; omega
        obtain ⟨wo, hwo⟩ : ∃ wo, wo = wr := ⟨_, rfl⟩
        rw [← hwo] at HRA
        go_wp2_with fail
        clear hge hlt
        obtain ⟨st, hst⟩ : ∃ st : Int, st = (k : Int) := ⟨_, rfl⟩
        have HST := hide hst
        clear hst
        go_loopw [13] (fun t wq => ∃ j : Nat, j ≤ N ∧ t = .int .i64 (j : Int) ∧ RoomAt w bF gL Q N (Z : Int) k qs ps op a c am cm lo hi lst wq) (fun t _ => N - (intOf t).toNat)
        case atStart => exact ⟨0, Nat.zero_le _, rfl, by rw [← hwo]; exact HRA.out⟩
        case round =>
          obtain ⟨j, hj, rfl, hRA⟩ := hrel
          have HRB := hide hRA
          have hcp := hRA.cap
          have hlen1 := hRA.len
          have hlen2 := hRA.lenQ
          clear hRA HRA
          have hSQ := HRB.out.var.squares
          have hPL := HRB.out.var.places
          rw [hlen2] at hSQ
          rw [hlen1] at hPL
          have HSQ := hide hSQ
          have HPL := hide hPL
          have HFI := hide (chipOk_fits (mapOk_chip (ftlOk_map HRB.out.ok)))
          clear hSQ hPL
          obtain ⟨c0, c1, c2, c3, c4⟩ := HRB.out.var.cells
          rw [hlen2] at c1
          rw [hlen1] at c2
          rw [← HST.out] at c4
          by_cases hjl : j < N
          · have hjl2 : (j : Int) < (N : Int) := by omega
            have hkj := HRB.out.kept j hjl
            obtain ⟨tx, htx⟩ : ∃ tx, tx = lst j := ⟨_, rfl⟩
            obtain ⟨bt, hbt⟩ : ∃ bt : Bool, bt = decide (1 ≤ (lst j).size) := ⟨_, rfl⟩
            have hemp : tx.toList.isEmpty = !bt := by
              rw [hbt, htx]
              by_cases h1 : 1 ≤ (lst j).size
              · rw [text_none h1, decide_eq_true h1]; rfl
              · rw [decide_eq_false h1, ByteArray.toList_eq]
                have h3 : (lst j).data.toList.length = (lst j).size := by simp
                have h2 : (lst j).data.toList.length = 0 := by omega
                rw [List.length_eq_zero_iff.1 h2]; rfl
            have HGT : Hid (Calls Tryz.prog 10 #[.agg #[.int .i64 (Z : Int), .slice a Q c, .slice am N cm, .int .i64 op, .int .i64 st], .int .i64 (j : Int)] wr fun e w' => e = .returned (.tuple #[.string tx, .bool bt]) ∧ Below wr.heap.size wr w') := by
              have h9 := implGet_any (Z : Int) a Q c qs am N cm ps op st (j : Int) wr HSQ.out HRB.out.var.hi_le (by omega) HFI.out HPL.out HRB.out.var.hi_le (by omega) (by omega) (HT.out.here HRB.out.below) (HE.out.here HRB.out.below)
              rw [HST.out, hkj, ← hbt, ← htx] at h9
              rw [HST.out]
              exact h9
            clear hkj hbt
            go_wp2_with fail
            refine HGT.out.mono ?_
            rintro e w3 ⟨rfl, b3⟩
            have HR3 := hide (HRB.out.on b3)
            clear b3 c0 c1 c2 c3 c4 HGT HRB HSQ HPL
            obtain ⟨hr1, _, _, _⟩ := HR3.out.row.place hjl
            rw [Nat.zero_add, ← htx] at hr1
            have hsame := text_same tx
            clear htx
            cases bt with
            | true =>
              rw [Bool.not_true] at hemp
              go_wp2_with fail
              exact ⟨⟨j + 1, by omega, by go_num, HR3.out⟩, by simp [intOf]; omega⟩
            | false =>
              rw [Bool.not_false] at hemp
              go_wp2_with fail
              exact ⟨⟨j + 1, by omega, by go_num, HR3.out⟩, by simp [intOf]; omega⟩
          · obtain rfl : j = N := by omega
            have HFO : Hid (Calls Tryz.prog 7 #[.agg #[.int .i64 (Z : Int), .slice a Q c, .slice am j cm, .int .i64 op, .int .i64 st]] wr fun e w' => e = .returned (.bool true) ∧ Below wr.heap.size wr w') := by
              have h9 := implFtlOk_any (Z : Int) a Q c qs am j cm ps op st wr HSQ.out HRB.out.var.hi_le (by omega) HFI.out HPL.out HRB.out.var.hi_le (by omega) (by omega) (HT.out.here HRB.out.below) (HE.out.here HRB.out.below)
              rw [HST.out, HRB.out.ok] at h9
              rw [HST.out]
              exact h9
            go_wp2_with fail
            refine HFO.out.mono ?_
            rintro e w3 ⟨rfl, b3⟩
            have HBF := hide (below_here HRB.out.below b3)
            clear b3
            go_wp2_with fail
            go_ret
            exact ⟨rfl, HBF.out⟩
end Go.Proofs.YtkpfdgceelmijaaGreatDoor.fnRoom
