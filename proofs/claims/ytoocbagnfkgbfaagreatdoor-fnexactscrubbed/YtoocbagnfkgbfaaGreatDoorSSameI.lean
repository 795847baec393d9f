/- Several texts in one: SameI, RotImpl. -/
import Derived.Test.YtoocbagnfkgbfaaGreatDoorSFtlOwnP
import Derived.Test.YtoocbagnfkgbfaaGreatDoorSFtlImplA
import Derived.Test.YtoocbagnfkgbfaaGreatDoorSChipImplB
import Derived.Test.YtoocbagnfkgbfaaGreatDoorSPlaceOwn
import Derived.Test.YtoocbagnfkgbfaaGreatDoorSFtlKeep
section
namespace Go.Proofs.YtoocbagnfkgbfaaGreatDoor
open Go.RowKit
set_option linter.unusedVariables false
set_option maxRecDepth 20000

set_option maxHeartbeats 6400000 in
theorem implSame_any (f g : Fv) (a : Option Addr) (n cap : Nat) (am : Option Addr) (m cm : Nat) (a' : Option Addr) (n' cap' : Nat) (am' : Option Addr) (m' cm' : Nat) (w : World) {lo hi lp hp lo' hi' lp' hp' : Nat} (h : Squares lo hi w a n f.qs) (hhi : hi ≤ w.heap.size) (hn : n ≤ 1048576) (hf : ∀ x ∈ f.qs, sqFits x) (hpl : Places lp hp w am m f.ps) (hhp : hp ≤ w.heap.size) (hm : m ≤ 1048576) (h' : Squares lo' hi' w a' n' g.qs) (hhi' : hi' ≤ w.heap.size) (hn' : n' ≤ 1048576) (hf' : ∀ x ∈ g.qs, sqFits x) (hpl' : Places lp' hp' w am' m' g.ps) (hhp' : hp' ≤ w.heap.size) (hm' : m' ≤ 1048576) (hcl : m ≤ cm) (hcl' : m' ≤ cm') (hT : Tab w) {aB aL aS aC aF : Addr} (E : Errs w aB aL aS aC aF) :
    Calls Tryz.prog 32 #[.agg #[.int .i64 f.z, .slice a n cap, .slice am m cm, .int .i64 f.op, .int .i64 f.st], .agg #[.int .i64 g.z, .slice a' n' cap', .slice am' m' cm', .int .i64 g.op, .int .i64 g.st]] w fun e w' => e = .returned (.bool (sameF f g)) ∧ Below w.heap.size w w' := by
  obtain ⟨sf, hsf⟩ : ∃ s, s = sameF f g := ⟨_, rfl⟩
  have HSF := hide hsf
  rw [← hsf]
  clear hsf
  have HFA : Hid (∀ i, i < f.ps.length → sameG f g i = false → sameF f g = false) := fun i h1 h2 => sameF_fall h1 h2
  have HUF : Hid (sameF f g = (ftlOk f.z f.qs f.ps f.op f.st && (ftlOk g.z g.qs g.ps g.op g.st && (decide (f.ps.length = g.ps.length) && (List.range f.ps.length).all (sameG f g))))) := rfl
  have HSG : ∀ i s b t c, Hid ((s, b) = ftlGet f.z f.qs f.ps f.op f.st ((i : Nat) : Int) → (t, c) = ftlGet g.z g.qs g.ps g.op g.st (i : Int) → sameG f g i = (decide (s = t) && (b == c))) := fun i s b t c h1 h2 => sameG_of h1 h2
  obtain ⟨G, hG⟩ : ∃ G, G = sameG f g := ⟨_, rfl⟩
  obtain ⟨S, hS⟩ : ∃ S, S = sameF f g := ⟨_, rfl⟩
  rw [← hG, ← hS] at HFA HUF
  rw [← hG] at HSG
  rw [← hS] at HSF
  clear hG hS
  obtain ⟨z, qs, ps, op, st⟩ := f
  obtain ⟨z', qs', ps', op', st'⟩ := g
  dsimp only at h hf hpl h' hf' hpl' HFA HUF HSG ⊢
  obtain ⟨wA, hwA⟩ : ∃ wA, wA = (w.alloc (.cells #[.int .i64 z, .slice a n cap, .slice am m cm, .int .i64 op, .int .i64 st] 29)).alloc (.cells #[.int .i64 z', .slice a' n' cap', .slice am' m' cm', .int .i64 op', .int .i64 st'] 29) := ⟨_, rfl⟩
  have hzA : wA.heap.size = w.heap.size + 1 + 1 := by rw [hwA]; simp
  have HBA : Hid (Below w.heap.size w wA) := by rw [hwA]; exact ((Below.refl _ _).alloc (Nat.le_refl _) _).alloc (by simp) _
  have H1 : Hid (wA.heap[w.heap.size]? = some (.cells #[.int .i64 z, .slice a n cap, .slice am m cm, .int .i64 op, .int .i64 st] 29)) := by rw [hwA]; exact heap_old (heap_new _ _)
  have H2 : Hid (wA.heap[w.heap.size + 1]? = some (.cells #[.int .i64 z', .slice a' n' cap', .slice am' m' cm', .int .i64 op', .int .i64 st'] 29)) := by rw [hwA]; exact heap_at (by simp)
  have HSQ := hide (h.later HBA.out hhi)
  have HPL := hide (hpl.later HBA.out hhp)
  have HSQ' := hide (h'.later HBA.out hhi')
  have HPL' := hide (hpl'.later HBA.out hhp')
  have HLP := hide hpl.1
  have HLP' := hide hpl'.1
  have HF := hide hf
  have HF' := hide hf'
  have HTA := hide (hT.here HBA.out)
  have HEA := hide (E.here HBA.out)
  clear h hf hpl h' hf' hpl' hT E
  obtain ⟨c0, c1, c2, c3, c4⟩ := five_cells H1.out
  obtain ⟨d0, d1, d2, d3, d4⟩ := five_cells H2.out
  go_enter Tryz.func32, Tryz.ntmps32
  go_wp2_with fail
  rw [← hwA]
  clear hwA
  refine (implFtlOk_any z a n cap qs am m cm ps op st wA HSQ.out (by omega) hn HF.out HPL.out (by omega) hm hcl HTA.out HEA.out).mono ?_
  rintro e w1 ⟨rfl, b1⟩
  have K1 := hide (block_on H1.out b1)
  have K2 := hide (block_on H2.out b1)
  have HB1 := hide (below_here HBA.out b1)
  have HS1 := hide (HSQ.out.later b1 (by omega))
  have HP1 := hide (HPL.out.later b1 (by omega))
  have HS1' := hide (HSQ'.out.later b1 (by omega))
  have HP1' := hide (HPL'.out.later b1 (by omega))
  have HT1 := hide (HTA.out.here b1)
  have HE1 := hide (HEA.out.here b1)
  have hs1 := b1.size
  clear HTA HEA b1 H1 H2 HSQ HPL HSQ' HPL' HBA c0 c1 c2 c3 c4 d0 d1 d2 d3 d4
  obtain ⟨c0, c1, c2, c3, c4⟩ := five_cells K1.out
  obtain ⟨d0, d1, d2, d3, d4⟩ := five_cells K2.out
  cases hok : ftlOk z qs ps op st with
  | false =>
    have HE : Hid (sf = false) := by show _ = _; rw [HSF.out, HUF.out, hok]; rfl
    go_wp2_with fail
    go_ret
    exact ⟨ret_bool HE.out.symm, HB1.out⟩
  | true =>
    have HOK := hide hok
    rw [hok, Bool.true_and] at HUF
    clear hok
    go_wp2_with fail
    refine (implFtlOk_any z' a' n' cap' qs' am' m' cm' ps' op' st' w1 HS1'.out (by omega) hn' HF'.out HP1'.out (by omega) hm' hcl' HT1.out HE1.out).mono ?_
    rintro e w2 ⟨rfl, b2⟩
    have K3 := hide (block_on K1.out b2)
    have K4 := hide (block_on K2.out b2)
    have HB2 := hide (below_here HB1.out b2)
    have HS2 := hide (HS1.out.later b2 (by omega))
    have HP2 := hide (HP1.out.later b2 (by omega))
    have HS2' := hide (HS1'.out.later b2 (by omega))
    have HP2' := hide (HP1'.out.later b2 (by omega))
    have HT2 := hide (HT1.out.here b2)
    have HE2 := hide (HE1.out.here b2)
    have hs2 := b2.size
    clear HT1 HE1 b2 K1 K2 HB1 HS1 HP1 HS1' HP1' c0 c1 c2 c3 c4 d0 d1 d2 d3 d4
    obtain ⟨c0, c1, c2, c3, c4⟩ := five_cells K3.out
    obtain ⟨d0, d1, d2, d3, d4⟩ := five_cells K4.out
    cases hok' : ftlOk z' qs' ps' op' st' with
    | false =>
      have HE : Hid (sf = false) := by show _ = _; rw [HSF.out, HUF.out, hok']; rfl
      go_wp2_with fail
      go_ret
      exact ⟨ret_bool HE.out.symm, HB2.out⟩
    | true =>
      have HOK' := hide hok'
      rw [hok', Bool.true_and] at HUF
      clear hok'
      by_cases hlen : m = m'
      · subst hlen
        have HU2 : Hid (S = (List.range ps.length).all G) := by show _ = _; rw [HUF.out, HLP.out, HLP'.out]; simp
        have g1 : ((m : Int) != (m : Int)) = false := by simp
        have hm64 : m ≤ 64 := by have := (mapOk_len (ftlOk_map HOK.out)).2; rw [HLP.out] at this; exact this
        clear HUF
        go_wp2_with fail
        go_loopw [30] (fun i wr => ∃ k : Nat, k ≤ m ∧ i = .int .i64 (k : Int) ∧ (List.range k).all G = true ∧ Below w2.heap.size w2 wr) (fun i _ => m - (intOf i).toNat)
        case atStart => exact ⟨0, Nat.zero_le _, rfl, rfl, Below.refl _ _⟩
        case round =>
          obtain ⟨k, hk, rfl, hall, hbel⟩ := hrel
          have HAL := hide hall
          have HBB := hide hbel
          have hszr := hbel.size
          have KR := hide (block_on K3.out hbel)
          have KR' := hide (block_on K4.out hbel)
          clear hall hbel c0 c1 c2 c3 c4 d0 d1 d2 d3 d4
          obtain ⟨c0, c1, c2, c3, c4⟩ := five_cells KR.out
          obtain ⟨d0, d1, d2, d3, d4⟩ := five_cells KR'.out
          by_cases hlt : k < m
          · have hpl : k < ps.length := by rw [HLP.out]; exact hlt
            have hpl' : k < ps'.length := by rw [HLP'.out]; exact hlt
            have hlt2 : (k : Int) < (m : Int) := by omega
            have HFK := hide (HFA.out k hpl)
            have HST : Hid (G k = true → (List.range (k + 1)).all G = true) := fun hh => all_range_step HAL.out hh
            go_wp2_with fail
            refine (entryOf_any z a n cap qs am m cm ps op st k wr (HS2.out.later HBB.out (by omega)) (by omega) hn (HP2.out.later HBB.out (by omega)) (by omega) (HT2.out.here HBB.out) (HE2.out.here HBB.out) HOK.out hlt).mono ?_
            rintro e w3 ⟨rfl, b3⟩
            have HB3 := hide (below_here HBB.out b3)
            have KR3 := hide (block_on KR.out b3)
            have KR3' := hide (block_on KR'.out b3)
            have hs3 := b3.size
            clear b3 c0 c1 c2 c3 c4 d0 d1 d2 d3 d4
            obtain ⟨c0, c1, c2, c3, c4⟩ := five_cells KR3.out
            obtain ⟨d0, d1, d2, d3, d4⟩ := five_cells KR3'.out
            obtain ⟨g1, hg1⟩ : ∃ g, g = ftlGet z qs ps op st (k : Int) := ⟨_, rfl⟩
            have HG1 := hide hg1
            rw [← hg1]
            clear hg1
            obtain ⟨s, b⟩ := g1
            dsimp only
            go_wp2_with fail
            refine (entryOf_any z' a' n' cap' qs' am' m cm' ps' op' st' k w3 (HS2'.out.later HB3.out (by omega)) (by omega) hn' (HP2'.out.later HB3.out (by omega)) (by omega) (HT2.out.here HB3.out) (HE2.out.here HB3.out) HOK'.out hlt).mono ?_
            rintro e w4 ⟨rfl, b4⟩
            have HB4 := hide (below_here HB3.out b4)
            have KR4 := hide (block_on KR3.out b4)
            have hs4 := b4.size
            clear b4 c0 c1 c2 c3 c4 d0 d1 d2 d3 d4
            obtain ⟨c0, c1, c2, c3, c4⟩ := five_cells KR4.out
            obtain ⟨g2, hg2⟩ : ∃ g, g = ftlGet z' qs' ps' op' st' (k : Int) := ⟨_, rfl⟩
            have HG2 := hide hg2
            rw [← hg2]
            clear hg2
            obtain ⟨t, c⟩ := g2
            dsimp only
            have HGK : Hid (G k = (decide (s = t) && (b == c))) := (HSG k s b t c).out HG1.out HG2.out
            have HBR := hide (below_here HB2.out HB4.out)
            clear HSG HG1 HG2
            by_cases est : s = t
            · subst est
              rw [show decide (s = s) = true by simp, Bool.true_and] at HGK
              have q1 := text_same s
              by_cases ebc : b = c
              · subst ebc
                have HN := hide (HST.out (by rw [HGK.out]; simp))
                have q2 : (b == b) = true := by simp
                go_wp2_with fail
                exact ⟨⟨k + 1, by omega, by go_num, HN.out, HB4.out⟩, by simp [intOf]; omega⟩
              · have q2 : (b == c) = false := by simpa using ebc
                have HE : Hid (sf = false) := by show _ = _; rw [HSF.out]; exact HFK.out (by rw [HGK.out, q2])
                go_wp2_with fail
                go_ret
                exact ⟨ret_bool HE.out.symm, HBR.out⟩
            · have q1 := text_other est
              have HE : Hid (sf = false) := by show _ = _; rw [HSF.out]; exact HFK.out (by rw [HGK.out, decide_eq_false est]; rfl)
              go_wp2_with fail
              go_ret
              exact ⟨ret_bool HE.out.symm, HBR.out⟩
          · obtain rfl : k = m := by omega
            have HE : Hid (sf = true) := by show _ = _; rw [HSF.out, HU2.out, HLP.out]; exact HAL.out
            have HBR := hide (below_here HB2.out HBB.out)
            go_wp2_with fail
            go_ret
            exact ⟨ret_bool HE.out.symm, HBR.out⟩
      · have g1 : ((m : Int) != (m' : Int)) = true := by simp; omega
        have HE : Hid (sf = false) := by show _ = _; rw [HSF.out, HUF.out, HLP.out, HLP'.out, decide_eq_false hlen]; rfl
        go_wp2_with fail
        go_ret
        exact ⟨ret_bool HE.out.symm, HB2.out⟩
end Go.Proofs.YtoocbagnfkgbfaaGreatDoor
end

section
namespace Go.Proofs.YtoocbagnfkgbfaaGreatDoor
open Go.RowKit
set_option linter.unusedVariables false
set_option maxRecDepth 20000

theorem txs_small {z : Int} {qs : List Sq} (h : chipOk z qs = true) : ∀ x ∈ qs, ∀ s ∈ x.1, s.size ≤ 1048576 := fun x hx s hs => by
  obtain ⟨i, hi, rfl⟩ := List.mem_iff_getElem.1 hx
  have := (sqOk_parts (chipOk_at h hi)).2.2.2 s (by unfold sqAt; rw [List.getD_eq_getElem?_getD, List.getElem?_eq_getElem hi]; exact hs)
  omega

set_option maxHeartbeats 6400000 in
theorem implRotten_any (z : Int) (a : Option Addr) (n cap : Nat) (qs : List Sq) (am : Option Addr) (m cm : Nat) (ps : List Pl) (op st : Int) (w : World) {lo hi lo' hi' : Nat} (h : Squares lo hi w a n qs) (hhi : hi ≤ w.heap.size) (hn : n ≤ 1048576) (hf : ∀ x ∈ qs, sqFits x) (hp : Places lo' hi' w am m ps) (hhi' : hi' ≤ w.heap.size) (hm : m ≤ 1048576) (hcl : m ≤ cm) (hT : Tab w) {aB aL aS aC aF : Addr} (E : Errs w aB aL aS aC aF) :
    Calls Tryz.prog 38 #[.agg #[.int .i64 z, .slice a n cap, .slice am m cm, .int .i64 op, .int .i64 st]] w fun e w' => ∃ a9 c9, e = .returned (.slice a9 (rotF z qs ps op st).length c9) ∧ (rotF z qs ps op st).length ≤ c9 ∧ w'.ownsRow w.heap.size 2 1 (.slice a9 (rotF z qs ps op st).length c9) (rotF z qs ps op st).length (valN (rotF z qs ps op st)) ∧ Below w.heap.size w w' := by
  obtain ⟨rf, hrf⟩ : ∃ r, r = rotF z qs ps op st := ⟨_, rfl⟩
  have HRF := hide hrf
  rw [← hrf]
  clear hrf
  obtain ⟨wA, hwA⟩ : ∃ wA, wA = (w.alloc (.cells #[.int .i64 z, .slice a n cap, .slice am m cm, .int .i64 op, .int .i64 st] 29)).alloc (.cells #[] 2) := ⟨_, rfl⟩
  have hzA : wA.heap.size = w.heap.size + 1 + 1 := by rw [hwA]; simp
  have HBA : Hid (Below w.heap.size w wA) := by rw [hwA]; exact ((Below.refl _ _).alloc (Nat.le_refl _) _).alloc (by simp) _
  have H1 : Hid (wA.heap[w.heap.size]? = some (.cells #[.int .i64 z, .slice a n cap, .slice am m cm, .int .i64 op, .int .i64 st] 29)) := by rw [hwA]; exact heap_old (heap_new _ _)
  have HO0 : Hid (wA.ownsRow (w.heap.size + 1) 2 1 (.slice (some ⟨w.heap.size + 1, 0, none⟩) 0 0) 0 (valN [])) := by
    rw [hwA]
    exact ⟨rfl, .inr ⟨w.heap.size + 1, 0, #[], rfl, Nat.le_refl _, heap_at (by simp), Nat.zero_le _, by unfold maxLen; omega, rfl, rfl⟩⟩
  have HSQ := hide (h.later HBA.out hhi)
  have HPL := hide (hp.later HBA.out hhi')
  have HLP := hide hp.1
  have HF := hide hf
  have HTA := hide (hT.here HBA.out)
  have HEA := hide (E.here HBA.out)
  have HT0 := hide hT
  have HE0 := hide E
  clear h hf hp hT E
  obtain ⟨c0, c1, c2, c3, c4⟩ := five_cells H1.out
  go_enter Tryz.func38, Tryz.ntmps38
  go_wp2_with fail
  rw [← hwA]
  clear hwA
  refine (implFtlOk_any z a n cap qs am m cm ps op st wA HSQ.out (by omega) hn HF.out HPL.out (by omega) hm hcl HTA.out HEA.out).mono ?_
  rintro e w1 ⟨rfl, b1⟩
  have K1 := hide (block_on H1.out b1)
  have HS1 := hide (HSQ.out.later b1 (by omega))
  have HP1 := hide (HPL.out.later b1 (by omega))
  have HB1 := hide (below_here HBA.out b1)
  have HO1 := hide (own_keepBy HO0.out (grown_below b1 none) (fun k e => by cases e))
  have hs1 := b1.size
  clear b1 H1 HSQ HPL HBA HO0 c0 c1 c2 c3 c4
  obtain ⟨c0, c1, c2, c3, c4⟩ := five_cells K1.out
  cases hok : ftlOk z qs ps op st with
  | false =>
    have HE : Hid (rf = []) := by show _ = _; rw [HRF.out]; unfold rotF; rw [hok]; rfl
    go_wp2_with fail
    go_ret
    exact ⟨_, 0, by rw [HE.out]; rfl, by rw [HE.out]; exact Nat.le_refl _, by rw [HE.out]; exact HO1.out.mono (by omega), HB1.out⟩
  | true =>
    have HE : Hid (rf = rotL z qs ps m) := by show _ = _; rw [HRF.out]; unfold rotF; rw [hok, HLP.out]; rfl
    have HCK := hide (mapOk_chip (ftlOk_map hok))
    have hm64 : m ≤ 64 := by have := (mapOk_len (ftlOk_map hok)).2; rw [HLP.out] at this; exact this
    have HTX : Hid (∀ x ∈ qs, ∀ s ∈ x.1, s.size ≤ 1048576) := fun x hx s hs => txs_small HCK.out x hx s hs
    clear hok
    obtain ⟨i0, hi0, hzz0, hzz1, hzz2⟩ := info_parts Tryz.infoI64e
    go_wp2_with fail
    go_loopw [16, 3] (fun i v wr => ∃ (k j : Nat) (l : List Nat) (a9 : Option Addr) (c9 : Nat), k ≤ m ∧ i = .int .i64 (k : Int) ∧ l = rotL z qs ps k ∧ j = l.length ∧ v = .slice a9 j c9 ∧ j ≤ c9 ∧ wr.ownsRow (w.heap.size + 1) 2 1 (.slice a9 j c9) j (valN l) ∧ Below (w.heap.size + 1) w1 wr) (fun i _ _ => m - (intOf i).toNat)
    case atStart => exact ⟨0, 0, [], _, 0, Nat.zero_le _, rfl, rfl, rfl, rfl, Nat.le_refl _, HO1.out, Below.refl _ _⟩
    case round =>
      obtain ⟨k, j, l, a9, c9, hk, rfl, hl, hj, rfl, hjc, hO, hbel⟩ := hrel
      have HLL := hide hl
      have HJL := hide hj
      have HBB := hide hbel
      have HOO := hide hO
      have hszr := hbel.size
      have KR : Hid (wr.heap[w.heap.size]? = some (.cells #[.int .i64 z, .slice a n cap, .slice am m cm, .int .i64 op, .int .i64 st] 29)) := (hbel.block _ (by omega)).trans K1.out
      have hjk : j ≤ k := by rw [hj, hl]; exact rotL_le z qs ps k
      clear hl hj hO c0 c1 c2 c3 c4
      obtain ⟨a0, a1, a2, a3, a4⟩ := five_cells KR.out
      by_cases hlt : k < m
      · have hpl : k < ps.length := by rw [HLP.out]; exact hlt
        obtain ⟨b, off, rfl, _, hb, hc⟩ := HP1.out.2.2 (by omega)
        have hbs : b < w.heap.size + 1 := by omega
        obtain ⟨c0, c1⟩ := pl_cells hc hbel hbs hlt
        have HRS := hide (rotL_succ z qs ps k)
        rw [← HLL.out] at HRS
        have HRN : Hid (rotN z qs ps k = ((lyP (pageAt z qs (plAt ps k).1 (plAt ps k).2)).2.2.2.2 == 2)) := rfl
        have hlt2 : (k : Int) < (m : Int) := by omega
        clear hc hbel
        obtain ⟨y, hy⟩ : ∃ y, y = plAt ps k := ⟨_, rfl⟩
        rw [← hy] at c0 c1 HRN
        clear hy
        obtain ⟨p, q⟩ := y
        dsimp only at c0 c1 HRN
        obtain ⟨wV, hwV⟩ : ∃ wV, wV = wr.alloc (.cells #[.int .i64 p, .int .i64 q] 48) := ⟨_, rfl⟩
        have hzV : wV.heap.size = wr.heap.size + 1 := by rw [hwV]; simp
        have HBV : Hid (Below wr.heap.size wr wV) := by rw [hwV]; exact (Below.refl _ _).alloc (Nat.le_refl _) _
        have HB4 := hide (HBB.out.trans (HBV.out.mono (by omega)))
        have hps : (pageAt z qs p q).size ≤ 1048576 := by have := pageAt_size (z := z) (qs := qs) (s := p) (p := q) HCK.out; omega
        have HVV : Hid (wV.heap[wr.heap.size]? = some (.cells #[.int .i64 p, .int .i64 q] 48)) := by rw [hwV]; exact heap_new _ _
        have HZV := hide hzV
        clear hzV
        go_upto_region 7 with fail
        rw [← hwV]
        clear hwV a0 a1 a2 a3 a4 c0 c1
        have hzV := HZV.out
        obtain ⟨a0, a1, a2, a3, a4⟩ := five_cells (block_on KR.out HBV.out)
        obtain ⟨v0, v1⟩ := two_cells HVV.out
        go_wp2_with fail
        clear a0 a1 a2 a3 a4 v0 v1
        refine (implPageAt_any z a n cap qs p q wV (HS1.out.later HB4.out (by omega)) (by omega) hn HF.out HTX.out).mono ?_
        rintro e w4 ⟨rfl, b4⟩
        have HB5 := hide (HB4.out.trans (b4.mono (by omega)))
        have HOV := hide (own_keepBy HOO.out (grown_below (below_here HBV.out b4) none) (fun k e => by cases e))
        have hs4 := b4.size
        clear b4 HOO
        obtain ⟨tx, htx⟩ : ∃ t, t = pageAt z qs p q := ⟨_, rfl⟩
        rw [← htx] at HRN hps
        rw [← htx]
        clear htx
        go_wp2_with fail
        refine (implLying_any tx w4 (HT0.out.here (HB1.out.trans (HB5.out.mono (by omega)))) (HE0.out.here (HB1.out.trans (HB5.out.mono (by omega)))) hps).mono ?_
        rintro e w5 ⟨rfl, b5⟩
        obtain ⟨r, hr⟩ : ∃ r, r = lyP tx := ⟨_, rfl⟩
        rw [← hr] at HRN
        rw [← hr]
        clear hr
        obtain ⟨r0, r1, r2, r3, r4⟩ := r
        unfold lyV
        dsimp only at HRN ⊢
        obtain ⟨wP, hwP⟩ : ∃ wP, wP = w5.alloc (.cells #[.int .i64 r0, .int .i64 r1, .int .i64 r2, .string r3] 31) := ⟨_, rfl⟩
        have hzP : wP.heap.size = w5.heap.size + 1 := by rw [hwP]; simp
        have HBP : Hid (Below w5.heap.size w5 wP) := by rw [hwP]; exact (Below.refl _ _).alloc (Nat.le_refl _) _
        have HB6 := hide ((HB5.out.trans (b5.mono (by omega))).trans (HBP.out.mono (by have := b5.size; omega)))
        have HO5 := hide (own_keepBy HOV.out (grown_below (below_here b5 HBP.out) none) (fun k e => by cases e))
        have hs5 := b5.size
        have HZP := hide hzP
        clear b5 HOV hzP
        by_cases h2 : r4 = 2
        · subst h2
          have HN2 : Hid (l ++ [k] = rotL z qs ps (k + 1)) := by
            show _ = _
            rw [HRS.out, HRN.out]; rfl
          go_upto_region 8 with fail
          rw [← hwP]
          clear hwP
          have hzP := HZP.out
          have HOA := hide (HO5.out.alloc (.cells #[.int .i64 (k : Int)] 2))
          have HBA2 := hide ((Below.refl wP.heap.size wP).alloc (Nat.le_refl _) (.cells #[.int .i64 (k : Int)] 2))
          have hzA2 : (wP.alloc (.cells #[.int .i64 (k : Int)] 2)).heap.size = wP.heap.size + 1 := by simp
          clear hzP
          go_wp2_with (at_builtin; (refine wpList_append_own_at _ rfl (.tmp 34) (.tmp 36) 62 rfl (w.heap.size + 1) 2 i0 (.int .i64 0) 1 8 Tryz.underlying62 hi0 hzz0 hzz1 hzz2 rfl (by decide) _ j (valN l) rfl HOA.out ⟨wP.heap.size, 0, none⟩ 1 1 [.int .i64 (k : Int)] rfl rfl (cell_one_new _ _ _) (by simp [Value.oneCell']) (by unfold maxLen; omega) (by omega) (by rw [hzA2, HZP.out]; omega) ?_); intro v2 w6 hown6 hgr6 hnil6 hat6; obtain ⟨g2, c2, rfl, hc2⟩ := some_form hown6 (fun e => by have h9 := (hnil6.1 e).2; cases h9); have HO6 := hide hown6; have HG6 := hide hgr6; clear hown6 hgr6 hnil6 hat6)
          have hln : (l ++ [k]).length = j + 1 := by simp; exact HJL.out.symm
          have HON : Hid (w6.ownsRow (w.heap.size + 1) 2 1 (.slice (some ⟨g2, 0, none⟩) (j + 1) c2) (j + 1) (valN (l ++ [k]))) := by
            show World.ownsRow _ _ _ _ _ _ _
            rw [valN_append]
            exact HO6.out
          have HB7 := hide ((HB6.out.trans (HBA2.out.mono (by have := HZP.out; omega))).grown HG6.out (by rw [hzA2]; have := HZP.out; omega) (fun x hx => (HO5.out.lt x hx).1))
          exact ⟨⟨k + 1, j + 1, l ++ [k], some ⟨g2, 0, none⟩, c2, by omega, by go_num, HN2.out, hln.symm, rfl, hc2, HON.out, HB7.out⟩, by simp [intOf]; omega⟩
        · have g2 : (r4 == 2) = false := by simpa using h2
          have HN2 : Hid (l = rotL z qs ps (k + 1)) := by
            show _ = _
            rw [HRS.out, HRN.out, g2]; rfl
          clear h2
          go_wp2_with fail
          rw [← hwP]
          exact ⟨⟨k + 1, j, l, a9, c9, by omega, by go_num, HN2.out, HJL.out, rfl, hjc, HO5.out, HB6.out⟩, by simp [intOf]; omega⟩
      · obtain rfl : k = m := by omega
        have HBR := hide (HB1.out.trans (HBB.out.mono (by omega)))
        have HLR : Hid (l = rf) := by show _ = _; rw [HLL.out, HE.out]
        clear hbel
        go_wp2_with fail
        go_ret
        refine ⟨a9, c9, by rw [← HLR.out, ← HJL.out]; rfl, by rw [← HLR.out, ← HJL.out]; exact hjc, ?_, HBR.out⟩
        rw [← HLR.out, ← HJL.out]
        exact HOO.out.mono (by omega)
end Go.Proofs.YtoocbagnfkgbfaaGreatDoor
end

