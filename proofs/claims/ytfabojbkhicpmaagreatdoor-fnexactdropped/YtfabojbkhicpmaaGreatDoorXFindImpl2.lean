/- The program's findPages and slices.Max. -/
import Derived.Test.YtfabojbkhicpmaaGreatDoorXMountMap
import Derived.Test.YtfabojbkhicpmaaGreatDoorXFtlImplA
import Derived.Test.YtfabojbkhicpmaaGreatDoorXCopyBase
import Derived.Test.YtfabojbkhicpmaaGreatDoorXChipGrow
import Derived.Test.YtfabojbkhicpmaaGreatDoorXInfo
namespace Go.Proofs.YtfabojbkhicpmaaGreatDoor
open Go.RowKit
set_option linter.unusedVariables false
set_option maxRecDepth 20000

set_option maxHeartbeats 1600000 in
theorem maxI64_any (G N : Nat) (st : List Int) (w : World) (h : Owned G (G + 1) w (some ⟨G, 0, none⟩) N (fun j => .int .i64 (stAt st j))) (h1 : 1 ≤ N) (h64 : N ≤ 64) :
    Calls Tryz.prog 113 #[.slice (some ⟨G, 0, none⟩) N N] w fun e w' => (∃ m, e = .returned (.int .i64 m) ∧ (∀ j, j < N → stAt st j ≤ m) ∧ ∃ j, j < N ∧ stAt st j = m) ∧ w = w' := by
  have HO := hide h
  obtain ⟨c0, _⟩ := h.at0 (i := 0) (by omega)
  clear h
  have g0 : decide ((N : Int) < 1) = false := by simp; omega
  obtain ⟨X, hX⟩ : ∃ X, X = stAt st 0 := ⟨_, rfl⟩
  have HX := hide hX
  rw [← hX] at c0
  clear hX
  have HS1 : Hid (∀ j, j < 1 → stAt st j ≤ X) := fun j hj => by
    have e : j = 0 := by omega
    rw [e, HX.out]
    exact Int.le_refl _
  have hN0 : (0 : Int) < (N : Int) := by omega
  go_enter Tryz.func113, Tryz.ntmps113
  go_wp2_with fail
  go_loop [4, 3] (fun i v => ∃ (k : Nat) (m : Int), 1 ≤ k ∧ k ≤ N ∧ i = .int .i64 (k : Int) ∧ v = .int .i64 m ∧ (∀ j, j < k → stAt st j ≤ m) ∧ ∃ j, j < k ∧ stAt st j = m) (fun i _ => N - (intOf i).toNat)
  case atStart => exact ⟨1, X, Nat.le_refl _, h1, rfl, rfl, HS1.out, 0, by omega, HX.out.symm⟩
  case round =>
    obtain ⟨k, m, hk1, hk, rfl, rfl, hall, hex⟩ := hrel
    have HAL := hide hall
    have HEX := hide hex
    clear hall hex c0
    by_cases hlt : k < N
    · obtain ⟨d0, _⟩ := HO.out.at0 hlt
      have hlt2 : (k : Int) < (N : Int) := by omega
      obtain ⟨Y, hY⟩ : ∃ Y, Y = stAt st k := ⟨_, rfl⟩
      have HY := hide hY
      rw [← hY] at d0
      clear hY
      have HA2 : Hid (∀ j, j < k + 1 → stAt st j ≤ max m Y) := fun j hj => by
        by_cases e : j = k
        · subst e; rw [← HY.out]; omega
        · have := HAL.out j (by omega); omega
      have HE2 : Hid (∃ j, j < k + 1 ∧ stAt st j = max m Y) := by
        by_cases e : Y ≤ m
        · obtain ⟨j, hj, ej⟩ := HEX.out
          exact ⟨j, by omega, by omega⟩
        · exact ⟨k, by omega, by rw [← HY.out]; omega⟩
      go_wp2_with fail
      exact ⟨⟨k + 1, max m Y, by omega, by omega, by go_num, rfl, HA2.out, HE2.out⟩, by simp [intOf]; omega⟩
    · obtain rfl : k = N := by omega
      go_wp2_with fail
      go_ret
      exact ⟨⟨_, rfl, HAL.out, HEX.out⟩, rfl⟩
theorem mtOne_st {n i k : Nat} {r : Int × Int × Int × ByteArray × Int} {s : Mt} (hh : mtHit n r = true) (hl : r.2.1.toNat < s.st.length) : (mtOne n i k r s).st = s.st.set r.2.1.toNat (max (stAt s.st r.2.1.toNat) r.2.2.1) := by
  unfold mtOne
  rw [if_pos hh, set_max s.st _ hl]
  split <;> rfl
theorem mtOne_no {n i k : Nat} {r : Int × Int × Int × ByteArray × Int} {s : Mt} (hh : mtHit n r = false) : mtOne n i k r s = s := by
  unfold mtOne
  rw [if_neg (by rw [hh]; simp)]
/-- What is found, at Square i, page k. -/
structure FdR (wF wr : World) (b G N : Nat) (cnt : Nat) (s : Mt) (F : Fnd) : Prop where
  mem : FdAt wr b G N cnt s.st F
  ok : FdOk N s F
  lens : s.st.length = N ∧ s.ps.length = N
  two : Two b G wF wr
theorem FdR.on {wF wr w' : World} {b G N cnt : Nat} {s : Mt} {F : Fnd} (h : FdR wF wr b G N cnt s F) (hb : Below wr.heap.size wr w') : FdR wF w' b G N cnt s F := ⟨h.mem.later hb, h.ok, h.lens, h.two.trans (Two.of_below hb)⟩

set_option maxHeartbeats 6400000 in
theorem findPages_any (z : Int) (a : Option Addr) (n cap : Nat) (qs : List Sq) (N : Nat) (w : World) {lo hi : Nat} (h : Squares lo hi w a n qs) (hhi : hi ≤ w.heap.size) (hok : chipOk z qs = true) (h1 : 1 ≤ N) (h64 : N ≤ 64) (hT : Tab w) {aB aL aS aC aF : Addr} (E : Errs w aB aL aS aC aF) :
    Calls Tryz.prog 112 #[.agg #[.int .i64 z, .slice a n cap], .int .i64 (N : Int)] w fun e w' => ∃ v, e = .returned v ∧ ∃ b G cnt F, v = .agg #[.map (some b), .slice (some ⟨G, 0, none⟩) N N] ∧ w.heap.size ≤ b ∧ w.heap.size ≤ G ∧ FdAt w' b G N cnt (mtAll N qs).st F ∧ FdOk N (mtAll N qs) F ∧ Below w.heap.size w w' := by
  obtain ⟨sA, hsA⟩ : ∃ s, s = mtAll N qs := ⟨_, rfl⟩
  have HSA := hide hsA
  rw [← hsA]
  clear hsA
  have hn12 : n ≤ 12 := by have := (chipOk_parts hok).2.2.2.1; rw [h.1] at this; exact this
  obtain ⟨wA, hwA⟩ : ∃ wA, wA = (w.alloc (.cells #[.int .i64 z, .slice a n cap] 26)).alloc (.cells #[.map none, .slice none 0 0] 147) := ⟨_, rfl⟩
  obtain ⟨wM, hwM⟩ : ∃ wM, wM = wA.alloc (.map #[] 0) := ⟨_, rfl⟩
  obtain ⟨wS, hwS⟩ : ∃ wS, wS = wM.alloc (.cells (madeCells #[.int .i64 0] N) 2) := ⟨_, rfl⟩
  obtain ⟨wF, hwF⟩ : ∃ wF, wF = wS.alloc (.cells #[.map (some (w.heap.size + 1 + 1)), .slice (some ⟨w.heap.size + 1 + 1 + 1, 0, none⟩) N N] 147) := ⟨_, rfl⟩
  have hzA : wA.heap.size = w.heap.size + 1 + 1 := by rw [hwA]; simp
  have hzM : wM.heap.size = wA.heap.size + 1 := by rw [hwM]; simp
  have hzS : wS.heap.size = wM.heap.size + 1 := by rw [hwS]; simp
  have hzF : wF.heap.size = wS.heap.size + 1 := by rw [hwF]; simp
  have BM : Below wA.heap.size wA wM := by rw [hwM]; exact (Below.refl _ _).alloc (Nat.le_refl _) _
  have BS : Below wM.heap.size wM wS := by rw [hwS]; exact (Below.refl _ _).alloc (Nat.le_refl _) _
  have BF : Below wS.heap.size wS wF := by rw [hwF]; exact (Below.refl _ _).alloc (Nat.le_refl _) _
  have BA : Below w.heap.size w wA := by rw [hwA]; exact ((Below.refl _ _).alloc (Nat.le_refl _) _).alloc (by simp) _
  have HBF : Hid (Below w.heap.size w wF) := below_here (below_here (below_here BA BM) BS) BF
  have H0 : Hid (wF.heap[w.heap.size]? = some (.cells #[.int .i64 z, .slice a n cap] 26)) := block_on (block_on (block_on (by rw [hwA]; exact heap_old (heap_new _ _)) BM) BS) BF
  have H2 : Hid (wF.heap[w.heap.size + 1]? = some (.cells #[.map none, .slice none 0 0] 147)) := block_on (block_on (block_on (by rw [hwA]; exact heap_at (by simp)) BM) BS) BF
  have HV : Hid (wF.heap[w.heap.size + 1 + 1 + 1 + 1]? = some (.cells #[.map (some (w.heap.size + 1 + 1)), .slice (some ⟨w.heap.size + 1 + 1 + 1, 0, none⟩) N N] 147)) := by rw [hwF]; exact heap_at (by omega)
  obtain ⟨b, hb⟩ : ∃ b, b = w.heap.size + 1 + 1 := ⟨_, rfl⟩
  obtain ⟨G, hG⟩ : ∃ G, G = w.heap.size + 1 + 1 + 1 := ⟨_, rfl⟩
  obtain ⟨V, hV⟩ : ∃ V, V = w.heap.size + 1 + 1 + 1 + 1 := ⟨_, rfl⟩
  have HFD : Hid (FdR wF wF b G N 0 (mtSqs N qs 0) (fun _ _ => none)) := by
    have m1 : MapAt wM b 0 (fun _ _ => none) := by rw [hb, ← hzA, hwM]; exact mapAt_made wA
    have m2 : MapAt wF b 0 (fun _ _ => none) := (m1.kept (BS.block b m1.lt)).kept (BF.block b (Nat.lt_of_lt_of_le m1.lt BS.size))
    have r1 : Owned G (G + 1) wS (some ⟨G, 0, none⟩) N (fun j => .int .i64 (stAt (List.replicate N 0) j)) := by
      rw [hG, ← hzA, ← hzM, hwS]
      have hr := World.rowIs_made wM (.int .i64 0) N 2
      refine ⟨by simp, fun _ => ⟨wM.heap.size, 0, rfl, Nat.le_refl _, Nat.lt_succ_self _, fun i hi => ?_⟩⟩
      rw [Nat.zero_add]
      refine ⟨(hr.cell hi).trans ?_, hr.frozen i⟩
      show some (Value.int .i64 0) = some (.int .i64 ((List.replicate N (0 : Int)).getD i 0))
      rw [List.getD_eq_getElem?_getD, List.getElem?_replicate, if_pos hi]
      rfl
    exact ⟨⟨m2, r1.later BF (by omega), List.length_replicate, by omega⟩, fdOk_start h1, ⟨List.length_replicate, List.length_replicate⟩, Two.refl _ _ _⟩
  rw [← hV, ← hG, ← hb] at HV
  have hmm := @run_makeMap Tryz.prog
  have hmake := run_make_row' (P := Tryz.prog) 62 2 (.int .i64 0) 8 Tryz.underlying62 Tryz.infoI64 rfl .i64 .i64 N (by omega) (by omega)
  have HSQ := hide h
  have HLQ := hide h.1
  have HOK := hide hok
  have HT := hide hT
  have HE := hide E
  clear h hok hT E BA BM BS BF
  go_enter Tryz.func112, Tryz.ntmps112
  go_upto_region 2 with fail
  rw [← hwA, ← hwM, ← hwS, ← hwF, ← hV, ← hG, ← hb]
  have hbw : w.heap.size + 1 < b := by omega
  have hbG : b < G := by omega
  have hGV : G < V := by omega
  have hVF : V < wF.heap.size := by omega
  clear hwA hwM hwS hwF hzA hzM hzS hzF hb hG hV hmm hmake
  obtain ⟨c0, c1⟩ := two_cells H0.out
  go_wp2_with fail
  go_loopw [19] (fun x wr => ∃ (i cnt : Nat) (F : Fnd), i ≤ n ∧ x = .int .i64 (i : Int) ∧ cnt ≤ 8 * i ∧ FdR wF wr b G N cnt (mtSqs N qs i) F) (fun x _ => n - (intOf x).toNat)
  case atStart => exact ⟨0, 0, _, Nat.zero_le _, rfl, Nat.le_refl _, HFD.out⟩
  case round =>
    obtain ⟨i, cnt, F, hi, rfl, hcnt, hR⟩ := hrel
    have HR := hide hR
    have hszr := hR.two.size
    have HBR := hide (HBF.out.trans (hR.two.below (B := w.heap.size) (by omega) (by omega) (by omega)))
    have K0 : Hid (wr.heap[w.heap.size]? = some (.cells #[.int .i64 z, .slice a n cap] 26)) := (hR.two.block _ (by omega) (by omega) (by omega)).trans H0.out
    have K2 : Hid (wr.heap[w.heap.size + 1]? = some (.cells #[.map none, .slice none 0 0] 147)) := (hR.two.block _ (by omega) (by omega) (by omega)).trans H2.out
    have KV : Hid (wr.heap[V]? = some (.cells #[.map (some b), .slice (some ⟨G, 0, none⟩) N N] 147)) := (hR.two.block _ (by omega) (by omega) (by omega)).trans HV.out
    clear hR c0 c1
    by_cases hlt : i < n
    · have hql : i < qs.length := by rw [HLQ.out]; exact hlt
      have hlt2 : (i : Int) < (n : Int) := by omega
      have HSR := hide (HSQ.out.later HBR.out hhi)
      obtain ⟨_, A, C, hx, ht⟩ := HSR.out
      obtain ⟨bq, off, rfl, _, hbq, hc⟩ := hx.2 (by omega)
      have hbqs : bq < wr.heap.size := by have := hx.1; omega
      obtain ⟨q0, q1, q2⟩ := sq_cells hc (Below.refl wr.heap.size wr) hbqs hlt
      have hsq := sqOk_parts (chipOk_at HOK.out hql)
      have hl8 : (sqAt qs i).1.length ≤ 8 := by have := hsq.1; have := (chipOk_parts HOK.out).2.1; omega
      have HTX : Hid (∀ j, j < (sqAt qs i).1.length → (txAt qs i j).size ≤ 1048576) := fun j hj => by
        have := (hsq.2.2.2 (txAt qs i j) (by unfold txAt; rw [List.getD_eq_getElem?_getD, List.getElem?_eq_getElem hj]; exact List.getElem_mem _)).2
        omega
      obtain ⟨ln, hln⟩ : ∃ ln, ln = (sqAt qs i).1.length := ⟨_, rfl⟩
      obtain ⟨zw, hzw⟩ : ∃ zw, zw = (sqAt qs i).2.1 := ⟨_, rfl⟩
      obtain ⟨bd, hbd⟩ : ∃ bd, bd = (sqAt qs i).2.2 := ⟨_, rfl⟩
      have HLN := hide hln
      rw [← hln] at q0 hl8 HTX
      rw [← hzw] at q1
      rw [← hbd] at q2
      clear hln hzw hbd hsq hc hx ht
      obtain ⟨wQ, hwQ⟩ : ∃ wQ, wQ = wr.alloc (.cells #[.slice (A i) ln (C i), .int .i64 zw, .bool bd] 51) := ⟨_, rfl⟩
      have hzQ : wr.heap.size < wQ.heap.size := by rw [hwQ]; simp
      have HBQ : Hid (Below wr.heap.size wr wQ) := by rw [hwQ]; exact (Below.refl _ _).alloc (Nat.le_refl _) _
      have HQQ : Hid (wQ.heap[wr.heap.size]? = some (.cells #[.slice (A i) ln (C i), .int .i64 zw, .bool bd] 51)) := by rw [hwQ]; exact heap_new _ _
      have HRQ := hide (HR.out.on HBQ.out)
      obtain ⟨wo, hwo⟩ : ∃ wo, wo = wr := ⟨_, rfl⟩
      subst hwo
      obtain ⟨k0, k1⟩ := two_cells K0.out
      go_upto_region 5 with fail
      rw [← hwQ]
      clear hwQ q0 q1 q2 k0 k1
      obtain ⟨x0, x1, x2⟩ := three_cells HQQ.out
      go_wp2_with fail
      go_loopw [27] (fun x wr => ∃ (k cn : Nat) (F : Fnd), k ≤ ln ∧ x = .int .i64 (k : Int) ∧ cn ≤ 8 * i + k ∧ FdR wF wr b G N cn (mtPages N qs i (mtSqs N qs i) k) F) (fun x _ => ln - (intOf x).toNat)
      case atStart => exact ⟨0, cnt, F, Nat.zero_le _, rfl, by omega, HRQ.out⟩
      case round =>
        obtain ⟨k, cn, F2, hk, rfl, hcn, hR2⟩ := hrel
        have HR2 := hide hR2
        have hsz2 := hR2.two.size
        have L0 : Hid (wr.heap[w.heap.size]? = some (.cells #[.int .i64 z, .slice (some ⟨bq, off, none⟩) n cap] 26)) := (hR2.two.block _ (by omega) (by omega) (by omega)).trans H0.out
        have LV : Hid (wr.heap[V]? = some (.cells #[.map (some b), .slice (some ⟨G, 0, none⟩) N N] 147)) := (hR2.two.block _ (by omega) (by omega) (by omega)).trans HV.out
        have HB2 := hide (HBF.out.trans (hR2.two.below (B := w.heap.size) (by omega) (by omega) (by omega)))
        clear hR2 x0 x1 x2
        by_cases hltk : k < ln
        · have hkl : k < (sqAt qs i).1.length := by rw [← HLN.out]; exact hltk
          have hltk2 : (k : Int) < (ln : Int) := by omega
          obtain ⟨wP, hwP⟩ : ∃ wP, wP = wr.alloc (.cells #[.int .i64 (i : Int), .int .i64 (k : Int)] 48) := ⟨_, rfl⟩
          have hzP : wr.heap.size < wP.heap.size := by rw [hwP]; simp
          have HBP : Hid (Below wr.heap.size wr wP) := by rw [hwP]; exact (Below.refl _ _).alloc (Nat.le_refl _) _
          have HPP : Hid (wP.heap[wr.heap.size]? = some (.cells #[.int .i64 (i : Int), .int .i64 (k : Int)] 48)) := by rw [hwP]; exact heap_new _ _
          have HRP := hide (HR2.out.on HBP.out)
          have HB3 := hide (HB2.out.trans (HBP.out.mono (by omega)))
          have M0 := hide (block_on L0.out HBP.out)
          have MV := hide (block_on LV.out HBP.out)
          go_upto_region 9 with fail
          rw [← hwP]
          clear hwP
          obtain ⟨k0, k1⟩ := two_cells M0.out
          obtain ⟨p0, p1⟩ := two_cells HPP.out
          go_wp2_with fail
          refine (pageLying_any z (some ⟨bq, off, none⟩) n cap qs i k wP (HSQ.out.later HB3.out hhi) (by omega) hlt hkl (by rw [← HLN.out]; exact hl8) (by omega) (HTX.out k hltk) (HT.out.here HB3.out) (HE.out.here HB3.out)).mono ?_
          rintro e w4 ⟨rfl, b4⟩
          clear k0 k1 p0 p1
          have HSTEP := hide (show mtPages N qs i (mtSqs N qs i) (k + 1) = mtOne N i k (lyP (txAt qs i k)) (mtPages N qs i (mtSqs N qs i) k) from rfl)
          have HWEL := hide (fun hh => lyP_well (s := txAt qs i k) hh)
          have HOKN := hide (fun s9 F9 (h9 : FdOk N s9 F9) h10 h11 => fdOk_one (n := N) (i := i) (k := k) (tx := txAt qs i k) h9 h10 h11)
          obtain ⟨r, hr⟩ : ∃ r, r = lyP (txAt qs i k) := ⟨_, rfl⟩
          rw [← hr] at HSTEP HWEL HOKN
          rw [← hr]
          clear hr
          obtain ⟨r0, r1, r2, r3, r4⟩ := r
          unfold pgV4
          dsimp only at HWEL ⊢
          obtain ⟨wG, hwG⟩ : ∃ wG, wG = w4.alloc (.cells #[.int .i64 r0, .int .i64 r1, .int .i64 r2, .string r3] 31) := ⟨_, rfl⟩
          have hzG : w4.heap.size < wG.heap.size := by rw [hwG]; simp
          have HBG : Hid (Below w4.heap.size w4 wG) := by rw [hwG]; exact (Below.refl _ _).alloc (Nat.le_refl _) _
          have HGG : Hid (wG.heap[w4.heap.size]? = some (.cells #[.int .i64 r0, .int .i64 r1, .int .i64 r2, .string r3] 31)) := by rw [hwG]; exact heap_new _ _
          have HB4 := hide (below_here b4 HBG.out)
          have HRG := hide (HRP.out.on HB4.out)
          have NV := hide (block_on MV.out HB4.out)
          have NP := hide (block_on HPP.out HB4.out)
          clear b4
          obtain ⟨s, hs⟩ : ∃ s, s = mtPages N qs i (mtSqs N qs i) k := ⟨_, rfl⟩
          rw [← hs] at HRG HSTEP
          have HS := hide hs
          clear hs
          have HNXT : Hid (mtHit N (r0, r1, r2, r3, r4) = false → FdR wF wG b G N cn (mtPages N qs i (mtSqs N qs i) (k + 1)) F2) := fun hh => by
            rw [HSTEP.out, mtOne_no hh]; exact HRG.out
          cases hw : lyWell r4 with
          | false =>
            have HN := hide (HNXT.out (by unfold mtHit; rw [hw]; rfl))
            go_wp2_with fail
            rw [← hwG]
            exact ⟨⟨k + 1, cn, F2, by omega, by go_num, by omega, HN.out⟩, by simp [intOf]; omega⟩
          | true =>
            obtain ⟨v1, v2, v3, v4⟩ := HWEL.out hw
            obtain ⟨aa, rfl⟩ : ∃ aa : Nat, r1 = (aa : Int) := ⟨r1.toNat, by omega⟩
            go_upto_region 10 with fail
            rw [← hwG]
            clear hwG
            obtain ⟨g0, g1, g2, g3⟩ := four_cells HGG.out
            by_cases haN : aa < N
            · have haN2 : (aa : Int) < (N : Int) := by omega
              have hhit : mtHit N (r0, (aa : Int), r2, r3, r4) = true := by unfold mtHit; dsimp only; rw [hw]; simp; omega
              obtain ⟨y0, y1⟩ := two_cells NV.out
              obtain ⟨p0, p1⟩ := two_cells NP.out
              go_wp2_with fail
              refine (add_any b G N cn aa s.st F2 r0 r2 r3 (i : Int) (k : Int) wG HRG.out.mem haN h64 v3 v4 (by omega)).mono ?_
              rintro e w5 ⟨rfl, hm5, ht5⟩
              have HN : Hid (FdR wF w5 b G N (cn + 1) (mtPages N qs i (mtSqs N qs i) (k + 1)) (fndAdd F2 (aa : Int) r2 ((i : Int), (k : Int)))) := by
                have hl := HRG.out.lens
                have hst : (mtOne N i k (r0, (aa : Int), r2, r3, r4) s).st = s.st.set aa (max (stAt s.st aa) r2) := by
                  have := mtOne_st (i := i) (k := k) (s := s) hhit (by show (aa : Int).toNat < _; rw [Int.toNat_natCast, hl.1]; exact haN)
                  dsimp only at this
                  rw [Int.toNat_natCast] at this
                  exact this
                have hfd := HOKN.out s F2 HRG.out.ok hl.1 hl.2
                unfold fdOne at hfd
                rw [if_pos hhit] at hfd
                dsimp only at hfd
                rw [HSTEP.out]
                refine ⟨by rw [hst]; exact hm5, hfd, ⟨by rw [hst, List.length_set]; exact hl.1, ?_⟩, HRG.out.two.trans ht5⟩
                unfold mtOne
                rw [if_pos hhit]
                split
                · dsimp only; rw [List.length_set]; exact hl.2
                · exact hl.2
              clear hm5 ht5 y0 y1 p0 p1 g0 g1 g2 g3
              go_wp2_with fail
              exact ⟨⟨k + 1, cn + 1, _, by omega, by go_num, by omega, HN.out⟩, by simp [intOf]; omega⟩
            · have haN2 : decide ((aa : Int) < (N : Int)) = false := by simp; omega
              have HN := hide (HNXT.out (by unfold mtHit; dsimp only; rw [hw]; simp; omega))
              go_wp2_with fail
              exact ⟨⟨k + 1, cn, F2, by omega, by go_num, by omega, HN.out⟩, by simp [intOf]; omega⟩
        · obtain rfl : k = ln := by omega
          have HN : Hid (FdR wF wr b G N cn (mtSqs N qs (i + 1)) F2) := by
            show FdR wF wr b G N cn (mtPages N qs i (mtSqs N qs i) (sqAt qs i).1.length) F2
            rw [← HLN.out]; exact HR2.out
          go_wp2_with fail
          exact ⟨⟨i + 1, cn, F2, by omega, by go_num, by omega, HN.out⟩, by simp [intOf]; omega⟩
    · obtain rfl : i = n := by omega
      have HEQ : Hid (mtSqs N qs i = sA) := by show _ = _; rw [HSA.out]; unfold mtAll; rw [HLQ.out]
      rw [HEQ.out] at HR
      obtain ⟨v0, v1⟩ := two_cells KV.out
      obtain ⟨p0, p1⟩ := two_cells K2.out
      have f0 := four_frozen K2.out 0
      have f1 := four_frozen K2.out 1
      have HRS := hide (two_set K2.out (.map (some b)) (.slice (some ⟨G, 0, none⟩) N N))
      have HAS := hide (two_aside (b := w.heap.size + 1) (Aside.refl (w.heap.size + 1) (w.heap.size + 1 + 1) wr) (Nat.le_refl _) (Nat.lt_succ_self _) (.map (some b)) (.slice (some ⟨G, 0, none⟩) N N))
      have HBE := hide (HBR.out.trans (HAS.out.below (B := w.heap.size) (by omega) (by omega)))
      have HFE : Hid (FdAt ((wr.setCell ⟨w.heap.size + 1, 0, none⟩ (.map (some b))).setCell ⟨w.heap.size + 1, 1, none⟩ (.slice (some ⟨G, 0, none⟩) N N)) b G N cnt sA.st F) :=
        ⟨HR.out.mem.map.kept (HAS.out.block b HR.out.mem.map.lt (.inr (by omega))), HR.out.mem.row.aside HAS.out (.inr (by omega)), HR.out.mem.len, HR.out.mem.ne⟩
      go_wp2_with fail
      refine bodyPost_ret (results_cell rfl rfl (run_loadVar_row _ _ _ _ _ _ _ HRS.out Tryz.underlying147 rfl (by kernel_rfl))) rfl ⟨_, rfl, b, G, cnt, F, rfl, by omega, by omega, HFE.out, HR.out.ok, HBE.out⟩
end Go.Proofs.YtfabojbkhicpmaaGreatDoor
