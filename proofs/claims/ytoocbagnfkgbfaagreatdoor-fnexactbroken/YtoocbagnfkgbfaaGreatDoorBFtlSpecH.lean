/- The model's Plan and Enter. -/
import Derived.Test.YtoocbagnfkgbfaaGreatDoorBFtlSpecE
import Derived.Test.YtoocbagnfkgbfaaGreatDoorBFtlSpecA
import Derived.Test.YtoocbagnfkgbfaaGreatDoorBChipAns
import Derived.Test.YtoocbagnfkgbfaaGreatDoorBFtlOwnP
namespace Go.Proofs.YtoocbagnfkgbfaaGreatDoor
open Go.RowKit
set_option linter.unusedVariables false
set_option maxRecDepth 20000

set_option maxHeartbeats 3200000 in
theorem specPlan_any (z : Int) (a : Option Addr) (n cap : Nat) (qs : List Sq) (am : Option Addr) (m cm : Nat) (ps : List Pl) (op st kd at_ sp : Int) (tx : ByteArray) (w : World) {lo hi lo' hi' : Nat} (h : Squares lo hi w a n qs) (hhi : hi ≤ w.heap.size) (hn : n ≤ 1048576) (hf : ∀ x ∈ qs, sqFits x) (hp : Places lo' hi' w am m ps) (hhi' : hi' ≤ w.heap.size) (hm : m ≤ 1048576) :
    Calls Tryz.prog 89 #[.agg #[.int .i64 z, .slice a n cap, .slice am m cm, .int .i64 op, .int .i64 st], .agg #[.int .i64 kd, .int .i64 at_, .int .i64 sp, .string tx]] w fun e w' => ∃ aj cj, e = .returned (.tuple #[.slice aj (jobsOf (planR z qs ps op st kd at_ tx)).length cj, .bool (planR z qs ps op st kd at_ tx).isSome]) ∧ JbOwn w.heap.size w' (.slice aj (jobsOf (planR z qs ps op st kd at_ tx)).length cj) (jobsOf (planR z qs ps op st kd at_ tx)) ∧ Below w.heap.size w w' := by
  obtain ⟨r, hr⟩ : ∃ r, r = planR z qs ps op st kd at_ tx := ⟨_, rfl⟩
  have HR := hide hr
  rw [← hr]
  clear hr
  obtain ⟨wA, hwA⟩ : ∃ wA, wA = (((w.alloc (.cells #[.int .i64 z, .slice a n cap, .slice am m cm, .int .i64 op, .int .i64 st] 29)).alloc (.cells #[.int .i64 kd, .int .i64 at_, .int .i64 sp, .string tx] 31)).alloc (.cells #[] 119)).alloc (.cells #[.slice (some ⟨w.heap.size + 1 + 1, 0, none⟩) 0 0] 99) := ⟨_, rfl⟩
  have hzA : wA.heap.size = w.heap.size + 1 + 1 + 1 + 1 := by rw [hwA]; simp
  have HBA : Hid (Below w.heap.size w wA) := by rw [hwA]; exact ((((Below.refl _ _).alloc (Nat.le_refl _) _).alloc (by simp) _).alloc (by simp; omega) _).alloc (by simp; omega) _
  have H0 : Hid (wA.heap[w.heap.size]? = some (.cells #[.int .i64 z, .slice a n cap, .slice am m cm, .int .i64 op, .int .i64 st] 29)) := by rw [hwA]; exact heap_old (heap_old (heap_old (heap_new _ _)))
  have H1 : Hid (wA.heap[w.heap.size + 1]? = some (.cells #[.int .i64 kd, .int .i64 at_, .int .i64 sp, .string tx] 31)) := by rw [hwA]; exact heap_old (heap_old (heap_at (by simp)))
  have H2 : Hid (wA.heap[w.heap.size + 1 + 1]? = some (.cells #[] 119)) := by rw [hwA]; exact heap_old (heap_at (by simp))
  have H3 : Hid (wA.heap[w.heap.size + 1 + 1 + 1]? = some (.cells #[.slice (some ⟨w.heap.size + 1 + 1, 0, none⟩) 0 0] 99)) := by rw [hwA]; exact heap_at (by simp)
  have HSQ := hide (h.later HBA.out hhi)
  have HPL := hide (hp.later HBA.out hhi')
  have HL := hide h.1
  have HLP := hide hp.1
  have HF := hide hf
  clear h hf hp
  obtain ⟨c0, c1, c2, c3, c4⟩ := five_cells H0.out
  go_enter Tryz.func89, Tryz.ntmps89
  go_wp2_with fail
  rw [← hwA]
  clear hwA
  refine (specFtlOk_any z a n cap qs am m cm ps op st wA HSQ.out (by omega) hn HF.out HPL.out (by omega) hm).mono ?_
  rintro e w1 ⟨rfl, b1⟩
  have K0 := hide (block_on H0.out b1)
  have K1 := hide (block_on H1.out b1)
  have K2 := hide (block_on H2.out b1)
  have K3 := hide (block_on H3.out b1)
  have HS1 := hide (HSQ.out.later b1 (by omega))
  have HP1 := hide (HPL.out.later b1 (by omega))
  have HB1 := hide (below_here HBA.out b1)
  have hs1 := b1.size
  have HJ1 : Hid (JbOwn w.heap.size w1 (.slice (some ⟨w.heap.size + 1 + 1, 0, none⟩) 0 0) []) := ⟨rfl, .inr ⟨w.heap.size + 1 + 1, 0, #[], rfl, by omega, K2.out, Nat.le_refl _, Nat.zero_le _, rfl, rfl⟩⟩
  clear b1 H0 H1 H2 H3 HSQ HPL HBA c0 c1 c2 c3 c4
  obtain ⟨c0, c1, c2, c3, c4⟩ := five_cells K0.out
  have d0 : w1.cell? ⟨w.heap.size + 1 + 1 + 1, 0, none⟩ = some (.slice (some ⟨w.heap.size + 1 + 1, 0, none⟩) 0 0) := by simp [World.cell?, K3.out]
  cases hok : ftlOk z qs ps op st with
  | false =>
    have HE : Hid (r = none) := by show _ = _; rw [HR.out]; unfold planR; rw [hok]; rfl
    go_wp2_with fail
    go_ret2
    exact ⟨_, 0, by rw [HE.out]; rfl, by rw [HE.out]; exact HJ1.out, HB1.out⟩
  | true =>
    have HE : Hid (r = enterK z ⟨qs, ps, op, []⟩ st kd at_ tx) := by show _ = _; rw [HR.out]; unfold planR; rw [hok]; rfl
    have HK := hide (kok_of hok [])
    obtain ⟨hmo, _, _, hst0, hst1, _, _⟩ := ftlOk_parts hok
    have hm64 : m ≤ 64 := by have := (mapOk_len hmo).2; rw [HLP.out] at this; exact this
    have hm1 : 1 ≤ m := by have := (mapOk_len hmo).1; rw [HLP.out] at this; exact this
    have HCK := hide (mapOk_chip hmo)
    clear hok hmo HR
    go_wp2_with fail
    refine (l10Copy_any z a n cap qs am m cm ps op st w1 HS1.out (by omega) HCK.out HP1.out (by omega) hm1 hm64).mono ?_
    rintro e w2 ⟨g, c, gm, cm', A, C, rfl, hG, hP, hgm, b2⟩
    obtain ⟨wX, hwX⟩ : ∃ wX, wX = w2.alloc (.cells #[.int .i64 z, .slice (some ⟨g, 0, none⟩) n c, .slice (some ⟨gm, 0, none⟩) m cm', .int .i64 op, .int .i64 st] 29) := ⟨_, rfl⟩
    have hzX : wX.heap.size = w2.heap.size + 1 := by rw [hwX]; simp
    have HBX : Hid (Below w2.heap.size w2 wX) := by rw [hwX]; exact (Below.refl _ _).alloc (Nat.le_refl _) _
    have HX : Hid (wX.heap[w2.heap.size]? = some (.cells #[.int .i64 z, .slice (some ⟨g, 0, none⟩) n c, .slice (some ⟨gm, 0, none⟩) m cm', .int .i64 op, .int .i64 st] 29)) := by rw [hwX]; exact heap_new _ _
    have hs2 := b2.size
    have hg1 := hG.atG
    have hg2 : g < w2.heap.size := by have := hG.row.1; omega
    have hle : ps.length = m := HLP.out
    have HFA : Hid (FtlAt w.heap.size wX w2.heap.size (w.heap.size + 1 + 1 + 1) z st n g c gm cm' A C (.slice (some ⟨w.heap.size + 1 + 1, 0, none⟩) 0 0) ⟨qs, ps, op, []⟩) :=
      ⟨⟨(hG.mono (by omega)).later HBX.out, own_keepBy (hP.mono (by omega)) (grown_below HBX.out none) (fun k e => by cases e), own_keepBy (own_keepBy HJ1.out (grown_below b2 none) (fun k e => by cases e)) (grown_below HBX.out none) (fun k e => by cases e), hgm, fun e => by simp [Value.ownBlock] at e; omega⟩,
       by dsimp only; rw [hle]; exact HX.out, block_on (block_on K3.out b2) HBX.out, by omega, by omega, by omega, by omega⟩
    have K12 := hide (block_on (block_on K1.out b2) HBX.out)
    have HB2 := hide (below_here (below_here HB1.out b2) HBX.out)
    clear hG hP b2 c0 c1 c2 c3 c4 d0
    obtain ⟨p0, p1, p2, p3⟩ := four_cells K12.out
    rw [hwX] at p0 p1 p2 p3
    have HZX := hide hzX
    clear hzX
    go_wp2_with fail
    rw [← hwX]
    clear hwX p0 p1 p2 p3
    refine (l10Enter_any w.heap.size w2.heap.size (w.heap.size + 1 + 1 + 1) z st n g c gm cm' A C _ ⟨qs, ps, op, []⟩ kd at_ sp tx wX HFA.out (by rw [HZX.out]; omega) HK.out (by show 0 ≤ _; omega) ⟨hst0, hst1⟩).mono ?_
    rintro e w3 ⟨rfl, hf3, hk3⟩
    have HF3 := hide (HB2.out.trans hf3.below)
    have hs3 := hf3.below.size
    rw [HZX.out] at hs3
    have HK3 := hide hk3
    clear hf3 hk3
    rw [← HE.out] at HK3
    rw [← HE.out]
    cases hrr : r with
    | none =>
      have HRR := hide hrr
      have HJ3 := hide ((jb_made0 w3).mono (show w.heap.size ≤ w3.heap.size by omega))
      have HB3 := hide (HF3.out.alloc (show w.heap.size ≤ w3.heap.size by omega) (.cells #[] 119))
      rw [Option.isSome_none]
      go_wp2_with fail
      go_ret2
      exact ⟨_, 0, by rw [HRR.out]; rfl, by rw [HRR.out]; exact HJ3.out, HB3.out⟩
    | some s' =>
      obtain ⟨A', C', V', hA'⟩ := HK3.out s' hrr
      obtain ⟨aj, cj, rfl, hcj⟩ := jb_form hA'.mem.jb
      have HJ3 := hide hA'.mem.jb
      have d0 : w3.cell? ⟨w.heap.size + 1 + 1 + 1, 0, none⟩ = some (.slice aj s'.js.length cj) := by simp [World.cell?, hA'.jobs]
      have HRR := hide hrr
      clear hA' hrr
      rw [Option.isSome_some]
      go_wp2_with fail
      go_ret2
      exact ⟨aj, cj, by rw [HRR.out]; rfl, by rw [HRR.out]; exact HJ3.out, HF3.out⟩

end Go.Proofs.YtoocbagnfkgbfaaGreatDoor
