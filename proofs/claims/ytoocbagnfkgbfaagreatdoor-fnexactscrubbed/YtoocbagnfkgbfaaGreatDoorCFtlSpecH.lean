/- Several texts in one: FtlSpecH, ScrubSpec. -/
import Derived.Test.YtoocbagnfkgbfaaGreatDoorCFtlSpecE
import Derived.Test.YtoocbagnfkgbfaaGreatDoorCFtlSpecA
import Derived.Test.YtoocbagnfkgbfaaGreatDoorCChipAns
import Derived.Test.YtoocbagnfkgbfaaGreatDoorCFtlOwnP
import Derived.Test.YtoocbagnfkgbfaaGreatDoorCSameW
section
namespace Go.Proofs.YtoocbagnfkgbfaaGreatDoor
open Go.RowKit
set_option linter.unusedVariables false
set_option maxRecDepth 20000

end Go.Proofs.YtoocbagnfkgbfaaGreatDoor
end

section
namespace Go.Proofs.YtoocbagnfkgbfaaGreatDoor
open Go.RowKit
set_option linter.unusedVariables false
set_option maxRecDepth 20000

/-- An Ftl that is worked on: its variable lies in block px. -/
structure XAt (B : Nat) (w : World) (px n g c gm cm : Nat) (A : Nat → Option Addr) (C : Nat → Nat) (f : Fv) : Prop where
  sq : GrowSqs B w n f.qs g A C
  pl : PlOwn B w (.slice (some ⟨gm, 0, none⟩) f.ps.length cm) f.ps
  ne : gm ≠ g
  ftl : w.heap[px]? = some (.cells #[.int .i64 f.z, .slice (some ⟨g, 0, none⟩) n c, .slice (some ⟨gm, 0, none⟩) f.ps.length cm, .int .i64 f.op, .int .i64 f.st] 29)
  nx : px ≠ g
  bx : B ≤ px
theorem XAt.later {B px n g c gm cm : Nat} {w w' : World} {A : Nat → Option Addr} {C : Nat → Nat} {f : Fv} (h : XAt B w px n g c gm cm A C f) (hb : Below w.heap.size w w') : XAt B w' px n g c gm cm A C f :=
  ⟨h.sq.later hb, own_keepBy h.pl (grown_below hb none) (fun k e => by cases e), h.ne, block_on h.ftl hb, h.nx, h.bx⟩
theorem XAt.own {B px n g c gm cm : Nat} {w : World} {A : Nat → Option Addr} {C : Nat → Nat} {f : Fv} (h : XAt B w px n g c gm cm A C f) : FtlOwn B w.heap.size w (some ⟨g, 0, none⟩) (some ⟨gm, 0, none⟩) f.qs f.ps := own_of_parts h.sq h.pl h.ne
theorem xat_of {B px pj n g c gm cm : Nat} {w : World} {z st : Int} {A : Nat → Option Addr} {C : Nat → Nat} {V : Value} {s : Kp} (h : FtlAt B w px pj z st n g c gm cm A C V s) : XAt B w px n g c gm cm A C ⟨z, s.qs, s.ps, s.op, st⟩ := ⟨h.mem.sq, h.mem.pl, h.mem.ne, h.ftl, h.nx, h.bx⟩
theorem row_frame {B D : Nat} {L : List Nat} {w w' : World} {e n : Nat} {v : Value} {xs : List Value} (h : w.ownsRow D e 1 v n xs) (hf : Frame B L w w') (h1 : e ≠ 9) (h2 : e ≠ 119) (hL : ∀ k, k ∈ L → v.ownBlock ≠ some k) : w'.ownsRow D e 1 v n xs := by
  obtain ⟨k1, k2 | ⟨p, c, cs, e', hp, hb, hr⟩⟩ := h
  · exact ⟨k1, .inl k2⟩
  · refine ⟨k1, .inr ⟨p, c, cs, e', hp, hf.other p _ _ _ (fun hm => hL p hm (by rw [e']; rfl)) h1 h2 hb, hr⟩⟩
theorem pl_two {B : Nat} {w : World} {gm cm I : Nat} {ps : List Pl} (h : PlOwn B w (.slice (some ⟨gm, 0, none⟩) ps.length cm) ps) (hI : I < ps.length) : w.cell? ⟨gm, I * 2, none⟩ = some (.int .i64 (plAt ps I).1) ∧ w.cell? ⟨gm, I * 2 + 1, none⟩ = some (.int .i64 (plAt ps I).2) := by
  rw [World.ownsRow.cellAt h (I * 2) (by omega), World.ownsRow.cellAt h (I * 2 + 1) (by omega), plL_at ps (by omega), plL_at ps (by omega), show I * 2 = 2 * I by omega, cellP0, cellP1]
  exact ⟨rfl, rfl⟩

set_option maxHeartbeats 8000000 in
theorem specScrubbed_any (z : Int) (a : Option Addr) (n cap : Nat) (qs : List Sq) (am : Option Addr) (m cm : Nat) (ps : List Pl) (op st : Int) (w : World) {lo hi lo' hi' : Nat} (h : Squares lo hi w a n qs) (hhi : hi ≤ w.heap.size) (hn : n ≤ 1048576) (hf : ∀ x ∈ qs, sqFits x) (hp : Places lo' hi' w am m ps) (hhi' : hi' ≤ w.heap.size) (hm : m ≤ 1048576) :
    Calls Tryz.prog 40 #[.agg #[.int .i64 z, .slice a n cap, .slice am m cm, .int .i64 op, .int .i64 st]] w fun e w' => ∃ v, e = .returned (.tuple #[v, .bool (scrubB ⟨z, qs, ps, op, st⟩)]) ∧ FtlAns w (scrubF ⟨z, qs, ps, op, st⟩) v w' := by
  obtain ⟨F, hF⟩ : ∃ F : Fv, F = ⟨z, qs, ps, op, st⟩ := ⟨_, rfl⟩
  have HFF := hide hF
  rw [← hF]
  have HOF : Hid (okF F = ftlOk z qs ps op st) := by rw [hF]; rfl
  have HRV : Hid (rotF z qs ps op st = rotV F) := by rw [hF]; rfl
  have HFP : Hid (F.ps = ps ∧ F.qs = qs ∧ F.z = z) := by rw [hF]; exact ⟨rfl, rfl, rfl⟩
  clear hF
  obtain ⟨sb, hsb⟩ : ∃ x, x = scrubB F := ⟨_, rfl⟩
  obtain ⟨fv, hfv⟩ : ∃ x, x = scrubF F := ⟨_, rfl⟩
  have HSB := hide hsb
  have HFV := hide hfv
  rw [← hsb, ← hfv]
  clear hsb hfv
  obtain ⟨wA, hwA⟩ : ∃ wA, wA = (w.alloc (.cells #[.int .i64 z, .slice a n cap, .slice am m cm, .int .i64 op, .int .i64 st] 29)).alloc (.cells #[.int .i64 0, .slice none 0 0, .slice none 0 0, .int .i64 0, .int .i64 0] 29) := ⟨_, rfl⟩
  have hzA : wA.heap.size = w.heap.size + 1 + 1 := by rw [hwA]; simp
  have HBA : Hid (Below w.heap.size w wA) := by rw [hwA]; exact ((Below.refl _ _).alloc (Nat.le_refl _) _).alloc (by simp) _
  have H0 : Hid (wA.heap[w.heap.size]? = some (.cells #[.int .i64 z, .slice a n cap, .slice am m cm, .int .i64 op, .int .i64 st] 29)) := by rw [hwA]; exact heap_old (heap_new _ _)
  have H2 : Hid (wA.heap[w.heap.size + 1]? = some (.cells #[.int .i64 0, .slice none 0 0, .slice none 0 0, .int .i64 0, .int .i64 0] 29)) := by rw [hwA]; exact heap_at (by simp)
  have HSQ := hide (h.later HBA.out hhi)
  have HPL := hide (hp.later HBA.out hhi')
  have HL := hide h.1
  have HLP := hide hp.1
  have HF := hide hf
  clear h hf hp
  obtain ⟨c0, c1, c2, c3, c4⟩ := five_cells H0.out
  go_enter Tryz.func40, Tryz.ntmps40
  go_wp2_with fail
  rw [← hwA]
  clear hwA
  refine (specFtlOk_any z a n cap qs am m cm ps op st wA HSQ.out (by omega) hn HF.out HPL.out (by omega) hm).mono ?_
  rintro e w1 ⟨rfl, b1⟩
  have K0 := hide (block_on H0.out b1)
  have K2 := hide (block_on H2.out b1)
  have HS1 := hide (HSQ.out.later b1 (by omega))
  have HP1 := hide (HPL.out.later b1 (by omega))
  have HB1 := hide (below_here HBA.out b1)
  have hs1 := b1.size
  clear b1 H0 H2 HSQ HPL HBA c0 c1 c2 c3 c4
  cases hok : ftlOk z qs ps op st with
  | false =>
    have HE : Hid (sb = false) := by show _ = _; rw [HSB.out]; unfold scrubB; rw [HOF.out, hok]; rfl
    have HFE : Hid (fv = ⟨0, [], [], 0, 0⟩) := by show _ = _; rw [HFV.out]; unfold scrubF; rw [HOF.out, hok]; rfl
    obtain ⟨p0, p1, p2, p3, p4⟩ := five_cells K2.out
    have f0 := four_frozen K2.out 0
    have f1 := four_frozen K2.out 1
    have f2 := four_frozen K2.out 2
    have f3 := four_frozen K2.out 3
    have f4 := four_frozen K2.out 4
    have HRS := hide (five_set K2.out (.int .i64 0) (.slice none 0 0) (.slice none 0 0) (.int .i64 0) (.int .i64 0))
    have HAS := hide (five_aside (b := w.heap.size + 1) (Aside.refl (w.heap.size + 1) (w.heap.size + 1 + 1) w1) (Nat.le_refl _) (Nat.lt_succ_self _) (.int .i64 0) (.slice none 0 0) (.slice none 0 0) (.int .i64 0) (.int .i64 0))
    have HBF := hide (HB1.out.trans (HAS.out.below (B := w.heap.size) (by omega) (by omega)))
    go_wp2_with fail
    refine bodyPost_ret (results_ct rfl rfl (run_loadVar_row _ _ _ _ _ _ _ HRS.out Tryz.underlying29 rfl (by kernel_rfl))) rfl ⟨.agg #[.int .i64 0, .slice none 0 0, .slice none 0 0, .int .i64 0, .int .i64 0], by rw [HE.out]; rfl, none, 0, none, 0, by rw [HFE.out]; rfl, ⟨Nat.le_refl _, .inl ?_⟩, HBF.out, by rw [HFE.out]; exact Nat.le_refl _⟩
    rw [HFE.out]; exact ⟨rfl, rfl⟩
  | true =>
    have HOK : Hid (okF F = true) := by show _ = _; rw [HOF.out]; exact hok
    have HRL := hide (rotL_of HOK.out)
    have HSI : Hid (∀ k g, k ≤ (rotV F).length → scrubK F (rotV F) k = some g → ScrubI F (rotV F) k g) := fun k g h1 h2 => scrubI_of HOK.out h1 h2
    obtain ⟨hmo, _, _, hst0, hst1, _, _⟩ := ftlOk_parts hok
    have hm64 : m ≤ 64 := by have := (mapOk_len hmo).2; rw [HLP.out] at this; exact this
    have hm1 : 1 ≤ m := by have := (mapOk_len hmo).1; rw [HLP.out] at this; exact this
    have HCK := hide (mapOk_chip hmo)
    have hrl := rotF_len z qs ps op st
    clear hok hmo
    obtain ⟨c0, c1, c2, c3, c4⟩ := five_cells K0.out
    go_wp2_with fail
    refine (l10Copy_any z a n cap qs am m cm ps op st w1 HS1.out (by omega) HCK.out HP1.out (by omega) hm1 hm64).mono ?_
    rintro e w2 ⟨g, c, gm, cm', A, C, rfl, hG, hP, hgm, b2⟩
    obtain ⟨wX, hwX⟩ : ∃ wX, wX = w2.alloc (.cells #[.int .i64 z, .slice (some ⟨g, 0, none⟩) n c, .slice (some ⟨gm, 0, none⟩) m cm', .int .i64 op, .int .i64 st] 29) := ⟨_, rfl⟩
    have hzX : wX.heap.size = w2.heap.size + 1 := by rw [hwX]; simp
    have HBX : Hid (Below w2.heap.size w2 wX) := by rw [hwX]; exact (Below.refl _ _).alloc (Nat.le_refl _) _
    have HX : Hid (wX.heap[w2.heap.size]? = some (.cells #[.int .i64 z, .slice (some ⟨g, 0, none⟩) n c, .slice (some ⟨gm, 0, none⟩) m cm', .int .i64 op, .int .i64 st] 29)) := by rw [hwX]; exact heap_new _ _
    have hs2 := b2.size
    have hg1 := hG.atG
    have hg2 : g < w2.heap.size := by have := hG.row.1; omega
    have hgm2 : gm < w2.heap.size := (World.ownsRow.lt hP gm rfl).2
    have HXA : Hid (XAt w1.heap.size wX w2.heap.size n g c gm cm' A C F) := by
      rw [HFF.out]
      exact ⟨hG.later HBX.out, own_keepBy hP (grown_below HBX.out none) (fun k e => by cases e), hgm, by dsimp only; rw [HLP.out]; exact HX.out, by omega, by omega⟩
    have K02 := hide (block_on (block_on K0.out b2) HBX.out)
    have K22 := hide (block_on (block_on K2.out b2) HBX.out)
    have HS2 := hide ((HS1.out.later b2 (by omega)).later HBX.out (by omega))
    have HP2 := hide ((HP1.out.later b2 (by omega)).later HBX.out (by omega))
    have HB2 := hide (below_here (below_here HB1.out b2) HBX.out)
    clear hG hP b2 HX K0 K2 HS1 HP1 HB1 c0 c1 c2 c3 c4
    go_upto_region 4 with fail
    rw [← hwX]
    clear hwX
    obtain ⟨c0, c1, c2, c3, c4⟩ := five_cells K02.out
    go_wp2_with fail
    refine (specRotten_any z a n cap qs am m cm ps op st wX HS2.out (by omega) hn HF.out HP2.out (by omega) hm).mono ?_
    rintro e w3 ⟨al, cl, rfl, hlc, hOL, b3⟩
    rw [HRV.out] at hlc hOL hrl
    rw [HRV.out]
    obtain ⟨l, hl⟩ : ∃ l, l = rotV F := ⟨_, rfl⟩
    rw [← hl] at hlc hOL hrl HSI HRL
    rw [← hl]
    have HLV := hide hl
    clear hl
    obtain ⟨L, hL⟩ : ∃ L, L = l.length := ⟨_, rfl⟩
    rw [← hL] at hlc hOL hrl HSI
    rw [← hL]
    have HLL := hide hL
    clear hL
    have HOL := hide hOL
    have HX3 := hide (HXA.out.later b3)
    have K03 := hide (block_on K02.out b3)
    have K23 := hide (block_on K22.out b3)
    have HS3 := hide (HS2.out.later b3 (by omega))
    have HP3 := hide (HP2.out.later b3 (by omega))
    have HB3 := hide (below_here HB2.out b3)
    have hs3 := b3.size
    have HZX := hide hzX
    clear hOL b3 HXA K02 K22 HS2 HP2 HB2 hzX c0 c1 c2 c3 c4
    have hX3 : w2.heap.size < w3.heap.size := by have := HZX.out; omega
    go_wp2_with fail
    go_loopw [6] (fun i wr => ∃ (k : Nat) (gk : Fv) (A : Nat → Option Addr) (C : Nat → Nat), k ≤ L ∧ i = .int .i64 (k : Int) ∧ scrubK F l k = some gk ∧ XAt w1.heap.size wr w2.heap.size n g c gm cm' A C gk ∧ wr.ownsRow wX.heap.size 2 1 (.slice al L cl) L (valN l) ∧ Below w1.heap.size w3 wr) (fun i _ => L - (intOf i).toNat)
    case atStart => exact ⟨0, F, A, C, Nat.zero_le _, rfl, rfl, HX3.out, HOL.out, Below.refl _ _⟩
    case round =>
      obtain ⟨k, gk, A, C, hk, rfl, hsk, hXk, hOk, hbk⟩ := hrel
      have HSK := hide hsk
      have HXK := hide hXk
      have HOK2 := hide hOk
      have HBK := hide hbk
      have hszr := hbk.size
      have HI := hide (HSI.out k gk hk hsk)
      have N0 : Hid (wr.heap[w.heap.size]? = some (.cells #[.int .i64 z, .slice a n cap, .slice am m cm, .int .i64 op, .int .i64 st] 29)) := (hbk.block _ (by omega)).trans K03.out
      have N2 : Hid (wr.heap[w.heap.size + 1]? = some (.cells #[.int .i64 0, .slice none 0 0, .slice none 0 0, .int .i64 0, .int .i64 0] 29)) := (hbk.block _ (by omega)).trans K23.out
      have HBR := hide (HB3.out.trans (hbk.mono (show w.heap.size ≤ w1.heap.size by omega)))
      clear hsk hXk hOk hbk
      by_cases hlt : k < L
      · have hkl : k < l.length := by rw [← HLL.out]; exact hlt
        obtain ⟨I, hI⟩ : ∃ I, I = l.getD k 0 := ⟨_, rfl⟩
        have hIm : I < m := by have := HRL.out.lt k hkl; rw [← hI, HFP.out.1, HLP.out] at this; exact this
        have hIF : I < F.ps.length := by rw [HFP.out.1, HLP.out]; exact hIm
        have hgl : gk.ps.length = m := by rw [HI.out.pl, HFP.out.1, HLP.out]
        have hql : gk.qs.length = n := HXK.out.sq.len
        obtain ⟨bl, rfl, hbl, hcl⟩ := valN_cell HOK2.out hlt HLL.out
        rw [← hI] at hcl
        have hblX : wX.heap.size ≤ bl := (World.ownsRow.lt HOK2.out bl rfl).1
        obtain ⟨m0, m1⟩ := pl_two HXK.out.pl (show I < gk.ps.length by omega)
        obtain ⟨x0, x1, x2, x3, x4⟩ := five_cells HXK.out.ftl
        rw [hgl] at x2
        have HPG : Hid (pgN gk I = pgN F I) := by
          have hr := HRL.out.rot k hkl
          rw [← hI] at hr
          have hpp := rot_parts HOK.out hIF hr
          refine pg_same HOK.out HI.out.ok HI.out.z HI.out.pl hIF hpp.1 (HI.out.same I hIF (fun j hj => ?_))
          rw [hI]
          exact HRL.out.apart j k hj hkl
        have HST : Hid (scrubK F l (k + 1) = entS gk (pgN F I).1 (pgN F I).2.1 (pgN F I).2.2.2.1) := by
          show _ = _
          unfold scrubK
          rw [HSK.out, hI]
          rfl
        clear hI
        have hgz : gk.z = z := by rw [HI.out.z, HFP.out.2.2]
        have HCG : Hid (chipOk z gk.qs = true) := by rw [← hgz]; exact mapOk_chip (ftlOk_map HI.out.ok)
        have HKO := hide (kok_of (show ftlOk gk.z gk.qs gk.ps gk.op gk.st = true from HI.out.ok) [])
        have hgst : 0 ≤ gk.st ∧ gk.st ≤ 1000000 := ⟨(ftlOk_parts HI.out.ok).2.2.2.1, (ftlOk_parts HI.out.ok).2.2.2.2.1⟩
        obtain ⟨y, hy⟩ : ∃ y, y = plAt gk.ps I := ⟨_, rfl⟩
        have HPY : Hid (pgN F I = pgOf z gk.qs y) := by show _ = _; rw [← HPG.out, hy, ← hgz]; rfl
        rw [← hy] at m0 m1
        clear hy HPG
        obtain ⟨p, q⟩ := y
        dsimp only at m0 m1
        obtain ⟨r, hr⟩ : ∃ r, r = pgN F I := ⟨_, rfl⟩
        rw [← hr] at HST HPY
        have hgs : (FtlOwn w1.heap.size wr.heap.size wr (some ⟨g, 0, none⟩) (some ⟨gm, 0, none⟩) gk.qs gk.ps) := HXK.out.own
        have HSG := hide hgs.squares
        rw [hql] at HSG
        have HCL : ∀ w', Hid (Below wr.heap.size wr w' → Calls Tryz.prog 80 #[.agg #[.int .i64 z, .slice (some ⟨g, 0, none⟩) n c], .agg #[.int .i64 p, .int .i64 q]] w' fun e w'' => e = .returned (lyV r) ∧ Below w'.heap.size w' w'') := fun w' hb' => by
          rw [HPY.out]
          have hs' := hb'.size
          exact l10Page_any z (some ⟨g, 0, none⟩) n c gk.qs p q w' (HSG.out.later hb' (Nat.le_refl _)) hs' hn (chipOk_fits HCG.out) HCG.out
        clear hr hgs HPY
        obtain ⟨r0, r1, r2, r3, r4⟩ := r
        unfold lyV at HCL
        dsimp only at HCL HST
        rw [hgz] at x0
        have hpx : w2.heap.size < wr.heap.size := by omega
        have hgmr : gm < wr.heap.size := by omega
        have HK : ∀ w', Hid (Below wr.heap.size wr w' → w'.cell? ⟨w2.heap.size, 0, none⟩ = some (.int .i64 z) ∧ w'.cell? ⟨w2.heap.size, 1, none⟩ = some (.slice (some ⟨g, 0, none⟩) n c) ∧ w'.cell? ⟨w2.heap.size, 2, none⟩ = some (.slice (some ⟨gm, 0, none⟩) m cm') ∧ w'.cell? ⟨bl, k, none⟩ = some (.int .i64 (I : Int)) ∧ w'.cell? ⟨gm, I * 2, none⟩ = some (.int .i64 p) ∧ w'.cell? ⟨gm, I * 2 + 1, none⟩ = some (.int .i64 q)) := fun w' hb' => ⟨(hb'.cell (p := ⟨_, _, none⟩) hpx).trans x0, (hb'.cell (p := ⟨_, _, none⟩) hpx).trans x1, (hb'.cell (p := ⟨_, _, none⟩) hpx).trans x2, (hb'.cell (p := ⟨_, _, none⟩) hbl).trans hcl, (hb'.cell (p := ⟨_, _, none⟩) hgmr).trans m0, (hb'.cell (p := ⟨_, _, none⟩) hgmr).trans m1⟩
        have hkL : (k : Int) < (L : Int) := by omega
        have hImI : (I : Int) < (m : Int) := by omega
        go_upto_region 8 with fail
        go_cut [7] (fun v wx => ∃ gp, v = .pointer (some ⟨gp, 0, none⟩) ∧ wx.heap[gp]? = some (.cells #[.int .i64 r0, .int .i64 r1, .int .i64 r2, .string r3] 31) ∧ Below wr.heap.size wr wx)
        case first =>
          have HB0 : Hid (Below wr.heap.size wr wr.drew) := (Below.refl wr.heap.size wr).drew
          have HBa : Hid (Below wr.heap.size wr (wr.alloc (.cells #[.int .i64 0, .int .i64 0, .int .i64 0, .string ⟨#[]⟩] 31)).drew) := ((Below.refl wr.heap.size wr).alloc (Nat.le_refl _) _).drew
          have HEa : Hid ((wr.alloc (.cells #[.int .i64 0, .int .i64 0, .int .i64 0, .string ⟨#[]⟩] 31)).drew.heap[wr.heap.size]? = some (.cells #[.int .i64 0, .int .i64 0, .int .i64 0, .string ⟨#[]⟩] 31)) := heap_new wr _
          go_region_held3 (fun w' => w'.cell? ⟨w2.heap.size, 0, none⟩ = some (.int .i64 z) ∧ w'.cell? ⟨w2.heap.size, 1, none⟩ = some (.slice (some ⟨g, 0, none⟩) n c) ∧ w'.cell? ⟨w2.heap.size, 2, none⟩ = some (.slice (some ⟨gm, 0, none⟩) m cm') ∧ w'.cell? ⟨bl, k, none⟩ = some (.int .i64 (I : Int)) ∧ w'.cell? ⟨gm, I * 2, none⟩ = some (.int .i64 p) ∧ w'.cell? ⟨gm, I * 2 + 1, none⟩ = some (.int .i64 q))
            (first | exact (HK _).out HB0.out | exact (HK _).out HBa.out | exact (HK _).out HB5.out | exact (HK _).out HBS.out | exact (HK _).out HB6.out | exact ⟨x0, x1, x2, hcl, m0, m1⟩ | fail)
            (first
              | (go_at_call 80; refine ((HCL _).out HB0.out).mono ?_; rintro e w5 ⟨rfl, b5⟩; have HB5 := hide (below_here HB0.out b5); have hs5 := b5.size; have HB6 := hide (HB5.out.alloc HB5.out.size (.cells #[.int .i64 0, .int .i64 0, .int .i64 0, .string ⟨#[]⟩] 31)); have HBS := hide (HB5.out.alloc HB5.out.size (.cells #[.int .i64 r0, .int .i64 r1, .int .i64 r2, .string r3] 31)); have HRS := hide (heap_new w5 (.cells #[.int .i64 r0, .int .i64 r1, .int .i64 r2, .string r3] 31)))
              | (go_at_call 80; refine ((HCL _).out HBa.out).mono ?_; rintro e w5 ⟨rfl, b5⟩; have HB5 := hide (below_here HBa.out b5); have hs5 := b5.size; have E5 := hide (block_on HEa.out b5); obtain ⟨e0, e1, e2, e3⟩ := four_cells E5.out; have f0 := four_frozen E5.out 0; have f1 := four_frozen E5.out 1; have f2 := four_frozen E5.out 2; have f3 := four_frozen E5.out 3; have HRS := hide (four_set E5.out (.int .i64 r0) (.int .i64 r1) (.int .i64 r2) (.string r3)); have HBS := hide (four_below (b := wr.heap.size) HB5.out (Nat.le_refl _) (.int .i64 r0) (.int .i64 r1) (.int .i64 r2) (.string r3))))
          all_goals
            clear HB0 HBa HEa HK HCL x0 x1 x2 x3 x4 m0 m1 hcl b5 HB5 hs5
            go_wp2_with fail
            go_meet
            exact ⟨_, rfl, HRS.out, HBS.out⟩
        case rest =>
          obtain ⟨gp, rfl, hgp, hb5⟩ := hcut
          obtain ⟨w5, hw5⟩ : ∃ w5, w5 = wc := ⟨_, rfl⟩
          subst hw5
          have HGP := hide hgp
          have HX5 := hide (HXK.out.later hb5)
          have HO5 := hide (own_keepBy HOK2.out (grown_below hb5 none) (fun k e => by cases e))
          have HB5 := hide (HBK.out.trans (hb5.mono (by omega)))
          have M0 := hide (block_on N0.out hb5)
          have M2 := hide (block_on N2.out hb5)
          have hs5 := hb5.size
          clear hgp hb5 HK HCL x0 x1 x2 x3 x4 m0 m1 hcl HXK HOK2 HBK N0 N2 HSG
          obtain ⟨wJ, hwJ⟩ : ∃ wJ, wJ = (w5.alloc (.cells #[] 119)).alloc (.cells #[.slice (some ⟨w5.heap.size, 0, none⟩) 0 0] 99) := ⟨_, rfl⟩
          have hzJ : wJ.heap.size = w5.heap.size + 1 + 1 := by rw [hwJ]; simp
          have HBJ : Hid (Below w5.heap.size w5 wJ) := by rw [hwJ]; exact ((Below.refl _ _).alloc (Nat.le_refl _) _).alloc (by simp) _
          have J0 : Hid (wJ.heap[w5.heap.size]? = some (.cells #[] 119)) := by rw [hwJ]; exact heap_old (heap_new _ _)
          have J1 : Hid (wJ.heap[w5.heap.size + 1]? = some (.cells #[.slice (some ⟨w5.heap.size, 0, none⟩) 0 0] 99)) := by rw [hwJ]; exact heap_at (by simp)
          have HXJ := hide (HX5.out.later HBJ.out)
          have HOJ := hide (own_keepBy HO5.out (grown_below HBJ.out none) (fun k e => by cases e))
          have HBL := hide (HB5.out.trans (HBJ.out.mono (by omega)))
          have L0 := hide (block_on M0.out HBJ.out)
          have L2 := hide (block_on M2.out HBJ.out)
          have HGJ := hide (block_on HGP.out HBJ.out)
          have HFA : Hid (FtlAt w1.heap.size wJ w2.heap.size (w5.heap.size + 1) z gk.st n g c gm cm' A C (.slice (some ⟨w5.heap.size, 0, none⟩) 0 0) ⟨gk.qs, gk.ps, gk.op, []⟩) :=
            ⟨⟨HXJ.out.sq, HXJ.out.pl, ⟨rfl, .inr ⟨w5.heap.size, 0, #[], rfl, by omega, J0.out, Nat.le_refl _, Nat.zero_le _, rfl, rfl⟩⟩, hgm, fun e => by simp [Value.ownBlock] at e; omega⟩, by have h9 := HXJ.out.ftl; rw [hgz] at h9; exact h9, J1.out, HXJ.out.nx, by omega, HXJ.out.bx, by omega⟩
          have HZJ := hide hzJ
          clear HX5 HO5 HB5 M0 M2 HGP hzJ
          go_upto_region 10 with fail
          rw [← hwJ]
          clear hwJ
          obtain ⟨d0, d1, d2, d3⟩ := four_cells HGJ.out
          go_wp2_with fail
          rw [hgz] at HKO
          refine (l10Enter_any w1.heap.size w2.heap.size (w5.heap.size + 1) z gk.st n g c gm cm' A C _ ⟨gk.qs, gk.ps, gk.op, []⟩ r0 r1 r2 r3 wJ HFA.out (by have := HZJ.out; omega) HKO.out (by show 0 ≤ _; omega) hgst).mono ?_
          rintro e w6 ⟨rfl, hf6, hk6⟩
          have hs6 := hf6.below.size
          have HB6 := hide (HBL.out.trans hf6.below)
          have HO6 : Hid (w6.ownsRow wX.heap.size 2 1 (.slice (some ⟨bl, 0, none⟩) L cl) L (valN l)) := row_frame HOJ.out hf6 (by decide) (by decide) (fun x hx e => by
            have e2 : bl = x := by simpa [Value.ownBlock] using e
            have := HZX.out
            simp only [List.mem_cons, List.not_mem_nil, or_false] at hx
            omega)
          have P0 : Hid (w6.heap[w.heap.size]? = some (.cells #[.int .i64 z, .slice a n cap, .slice am m cm, .int .i64 op, .int .i64 st] 29)) := (hf6.below.block _ (by omega)).trans L0.out
          have P2 : Hid (w6.heap[w.heap.size + 1]? = some (.cells #[.int .i64 0, .slice none 0 0, .slice none 0 0, .int .i64 0, .int .i64 0] 29)) := (hf6.below.block _ (by omega)).trans L2.out
          have HK6 := hide hk6
          have HBW := hide (HB3.out.trans (HB6.out.mono (show w.heap.size ≤ w1.heap.size by omega)))
          have HS6 := hide (HS3.out.later HB6.out (by omega))
          have HP6 := hide (HP3.out.later HB6.out (by omega))
          clear hf6 hk6 HXJ HOJ HBL L0 L2 HGJ HFA d0 d1 d2 d3
          have HES : Hid (entS gk r0 r1 r3 = (enterK z ⟨gk.qs, gk.ps, gk.op, []⟩ gk.st r0 r1 r3).map fun s => ⟨z, s.qs, s.ps, s.op, gk.st + 1⟩) := by show _ = _; unfold entS; rw [hgz]
          cases hrr : enterK z ⟨gk.qs, gk.ps, gk.op, []⟩ gk.st r0 r1 r3 with
          | none =>
            have HNO : Hid (scrubK F l L = none) := scrubK_none (k := k + 1) (by rw [HST.out, HES.out, hrr]; rfl) L (by omega)
            have HE : Hid (sb = false) := by show _ = _; rw [HSB.out]; unfold scrubB; rw [← HLV.out, ← HLL.out, HNO.out]; simp
            have HFN : Hid (fv = ⟨z, qs, ps, op, st⟩) := by show _ = _; rw [HFV.out]; unfold scrubF; rw [← HLV.out, ← HLL.out, HNO.out, HOK.out, ← HFF.out]; rfl
            clear hrr HK6
            obtain ⟨c0, c1, c2, c3, c4⟩ := five_cells P0.out
            rw [Option.isSome_none]
            go_wp2_with fail
            refine (l10Copy_any z a n cap qs am m cm ps op st w6 HS6.out (by have := HZJ.out; omega) HCK.out HP6.out (by have := HZJ.out; omega) hm1 hm64).mono ?_
            rintro e w7 ⟨g', c', gm', cm2, A', C', rfl, hG', hP', hgm', b7⟩
            have HO7 := hide (own_of_parts hG' hP' hgm')
            have HCP7 := hide (pl_cap hP')
            have O2 := hide (block_on P2.out b7)
            have HB7 := hide (below_here HBW.out b7)
            have hs7 := b7.size
            clear hG' hP' b7 c0 c1 c2 c3 c4
            obtain ⟨p0, p1, p2, p3, p4⟩ := five_cells O2.out
            have f0 := four_frozen O2.out 0
            have f1 := four_frozen O2.out 1
            have f2 := four_frozen O2.out 2
            have f3 := four_frozen O2.out 3
            have f4 := four_frozen O2.out 4
            have HRS := hide (five_set O2.out (.int .i64 z) (.slice (some ⟨g', 0, none⟩) n c') (.slice (some ⟨gm', 0, none⟩) m cm2) (.int .i64 op) (.int .i64 st))
            have HAS := hide (five_aside (b := w.heap.size + 1) (Aside.refl (w.heap.size + 1) (w.heap.size + 1 + 1) w7) (Nat.le_refl _) (Nat.lt_succ_self _) (.int .i64 z) (.slice (some ⟨g', 0, none⟩) n c') (.slice (some ⟨gm', 0, none⟩) m cm2) (.int .i64 op) (.int .i64 st))
            have HBF := hide (HB7.out.trans (HAS.out.below (B := w.heap.size) (by have := HZJ.out; omega) (by have := HZJ.out; omega)))
            go_wp2_with fail
            refine bodyPost_ret (results_ct rfl rfl (run_loadVar_row _ _ _ _ _ _ _ HRS.out Tryz.underlying29 rfl (by kernel_rfl))) rfl ⟨.agg #[.int .i64 z, .slice (some ⟨g', 0, none⟩) n c', .slice (some ⟨gm', 0, none⟩) m cm2, .int .i64 op, .int .i64 st], by rw [HE.out]; rfl, some ⟨g', 0, none⟩, c', some ⟨gm', 0, none⟩, cm2, by rw [HFN.out, ← HL.out, ← HLP.out]; rfl, ?_, HBF.out, by rw [HFN.out]; exact HCP7.out⟩
            rw [HFN.out]
            exact (HO7.out.aside HAS.out (.inl (by have := HZJ.out; omega))).wide (by have := HZJ.out; omega) HAS.out.size (Nat.le_refl _)
          | some s' =>
            have HNX : Hid (scrubK F l (k + 1) = some ⟨z, s'.qs, s'.ps, s'.op, gk.st + 1⟩) := by show _ = _; rw [HST.out, HES.out, hrr]; rfl
            obtain ⟨A', C', V', hA'⟩ := HK6.out s' hrr
            have HX6 := hide (xat_of hA')
            clear hrr HK6 hA'
            rw [Option.isSome_some]
            go_wp2_with fail
            exact ⟨⟨k + 1, _, A', C', by omega, by go_num, HNX.out, HX6.out, HO6.out, HB6.out⟩, by simp [intOf]; omega⟩
      · obtain rfl : k = L := by omega
        have HE : Hid (sb = true) := by show _ = _; rw [HSB.out]; unfold scrubB; rw [← HLV.out, ← HLL.out, HSK.out, HOK.out]; rfl
        have HFN : Hid (fv = gk) := by show _ = _; rw [HFV.out]; unfold scrubF; rw [← HLV.out, ← HLL.out, HSK.out, HOK.out]; rfl
        have HO4 := hide HXK.out.own
        have HCP4 := hide (pl_cap HXK.out.pl)
        have HLN := hide HXK.out.sq.len
        obtain ⟨c0, c1, c2, c3, c4⟩ := five_cells HXK.out.ftl
        obtain ⟨p0, p1, p2, p3, p4⟩ := five_cells N2.out
        have f0 := four_frozen N2.out 0
        have f1 := four_frozen N2.out 1
        have f2 := four_frozen N2.out 2
        have f3 := four_frozen N2.out 3
        have f4 := four_frozen N2.out 4
        have HRS := hide (five_set N2.out (.int .i64 gk.z) (.slice (some ⟨g, 0, none⟩) n c) (.slice (some ⟨gm, 0, none⟩) gk.ps.length cm') (.int .i64 gk.op) (.int .i64 gk.st))
        have HAS := hide (five_aside (b := w.heap.size + 1) (Aside.refl (w.heap.size + 1) (w.heap.size + 1 + 1) wr) (Nat.le_refl _) (Nat.lt_succ_self _) (.int .i64 gk.z) (.slice (some ⟨g, 0, none⟩) n c) (.slice (some ⟨gm, 0, none⟩) gk.ps.length cm') (.int .i64 gk.op) (.int .i64 gk.st))
        have HBF := hide (HBR.out.trans (HAS.out.below (B := w.heap.size) (by omega) (by omega)))
        go_wp2_with fail
        refine bodyPost_ret (results_ct rfl rfl (run_loadVar_row _ _ _ _ _ _ _ HRS.out Tryz.underlying29 rfl (by kernel_rfl))) rfl ⟨.agg #[.int .i64 gk.z, .slice (some ⟨g, 0, none⟩) n c, .slice (some ⟨gm, 0, none⟩) gk.ps.length cm', .int .i64 gk.op, .int .i64 gk.st], by rw [HE.out]; rfl, some ⟨g, 0, none⟩, c, some ⟨gm, 0, none⟩, cm', by rw [HFN.out]; unfold fvV; rw [HLN.out], ?_, HBF.out, by rw [HFN.out]; exact HCP4.out⟩
        rw [HFN.out]
        exact (HO4.out.aside HAS.out (.inl (by omega))).wide (by omega) HAS.out.size (Nat.le_refl _)
end Go.Proofs.YtoocbagnfkgbfaaGreatDoor
end

