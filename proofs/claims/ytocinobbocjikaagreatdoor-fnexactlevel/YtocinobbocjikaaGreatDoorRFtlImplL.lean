/- The program's Level. -/
import Derived.Test.YtocinobbocjikaaGreatDoorRFtlImplA
import Derived.Test.YtocinobbocjikaaGreatDoorRFtlSpecB
import Derived.Test.YtocinobbocjikaaGreatDoorRWearImplC
namespace Go.Proofs.YtocinobbocjikaaGreatDoor
open Go.RowKit
set_option linter.unusedVariables false
set_option maxRecDepth 20000

set_option maxHeartbeats 1600000 in
theorem implLevel_any (z : Int) (a : Option Addr) (n cap : Nat) (qs : List Sq) (am : Option Addr) (m cm : Nat) (ps : List Pl) (op st : Int) (w : World) {lo hi lo' hi' : Nat} (h : Squares lo hi w a n qs) (hhi : hi ≤ w.heap.size) (hn : n ≤ 1048576) (hf : ∀ x ∈ qs, sqFits x) (hp : Places lo' hi' w am m ps) (hhi' : hi' ≤ w.heap.size) (hm : m ≤ 1048576) (hcl : m ≤ cm) (hT : Tab w) {aB aL aS aC aF : Addr} (E : Errs w aB aL aS aC aF) :
    Calls Tryz.prog 34 #[.agg #[.int .i64 z, .slice a n cap, .slice am m cm, .int .i64 op, .int .i64 st]] w fun e w' => e = .returned (.int .i64 (ftlLevel z qs ps op st)) ∧ Below w.heap.size w w' := by
  obtain ⟨wA, hwA⟩ : ∃ wA, wA = w.alloc (.cells #[.int .i64 z, .slice a n cap, .slice am m cm, .int .i64 op, .int .i64 st] 29) := ⟨_, rfl⟩
  have hzA : wA.heap.size = w.heap.size + 1 := by rw [hwA]; simp
  have HBA : Hid (Below w.heap.size w wA) := by rw [hwA]; exact (Below.refl _ _).alloc (Nat.le_refl _) _
  have H1 : Hid (wA.heap[w.heap.size]? = some (.cells #[.int .i64 z, .slice a n cap, .slice am m cm, .int .i64 op, .int .i64 st] 29)) := by rw [hwA]; exact heap_new _ _
  have HSQ := hide (h.later HBA.out hhi)
  have HPL := hide (hp.later HBA.out hhi')
  have HF := hide hf
  have HTA := hide (hT.here HBA.out)
  have HEA := hide (E.here HBA.out)
  clear h hf hp hT E
  obtain ⟨c0, c1, c2, c3, c4⟩ := five_cells H1.out
  go_enter Tryz.func34, Tryz.ntmps34
  go_wp2_with fail
  rw [← hwA]
  clear hwA
  refine (implFtlOk_any z a n cap qs am m cm ps op st wA HSQ.out (by omega) hn HF.out HPL.out (by omega) hm hcl HTA.out HEA.out).mono ?_
  rintro e w1 ⟨rfl, b1⟩
  have K1 := hide (block_on H1.out b1)
  have HS1 := hide (HSQ.out.later b1 (by omega))
  have HB1 := hide (below_here HBA.out b1)
  have hs1 := b1.size
  clear b1 H1 HSQ HPL HBA HTA HEA c0 c1 c2 c3 c4
  obtain ⟨c0, c1, c2, c3, c4⟩ := five_cells K1.out
  cases hok : ftlOk z qs ps op st with
  | false =>
    have HE : Hid (ftlLevel z qs ps op st = -1) := by show _ = _; unfold ftlLevel; rw [hok]; rfl
    go_wp2_with fail
    go_ret
    exact ⟨by rw [HE.out]; rfl, HB1.out⟩
  | true =>
    have HE : Hid (ftlLevel z qs ps op st = if (worn z qs).1 < 0 then -1 else (worn z qs).2 - (worn z qs).1) := by show _ = _; unfold ftlLevel; rw [hok]; rfl
    have HCK := hide (mapOk_chip (ftlOk_map hok))
    clear hok
    go_wp2_with fail
    refine (implWorn_any z a n cap qs w1 HS1.out (by omega) hn HF.out).mono ?_
    rintro e w2 ⟨rfl, b2⟩
    have HB2 := hide (below_here HB1.out b2)
    clear b2
    have hwi := worn_in HCK.out
    obtain ⟨g, hg⟩ : ∃ g, g = worn z qs := ⟨_, rfl⟩
    rw [← hg] at HE hwi
    rw [← hg]
    clear hg
    obtain ⟨x, y⟩ := g
    dsimp only at HE hwi
    by_cases hx : x = -1
    · subst hx
      have HE2 : Hid (ftlLevel z qs ps op st = -1) := by show _ = _; rw [HE.out]; rfl
      go_wp2_with fail
      go_ret
      exact ⟨by rw [HE2.out]; rfl, HB2.out⟩
    · have g0 : (x == -1) = false := by simpa using hx
      have HE2 : Hid (ftlLevel z qs ps op st = y - x) := by show _ = _; rw [HE.out, if_neg (by omega)]
      have hw : IntKind.i64.wrap (y - x) = y - x := by rw [IntKind.wrap_i64]; omega
      go_wp2_with fail
      go_ret
      exact ⟨by rw [HE2.out]; rfl, HB2.out⟩
end Go.Proofs.YtocinobbocjikaaGreatDoor
