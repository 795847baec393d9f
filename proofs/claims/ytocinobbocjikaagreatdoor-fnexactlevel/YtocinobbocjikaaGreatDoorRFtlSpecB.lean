/- The model's l10Get, Get, Level. -/
import Derived.Test.YtocinobbocjikaaGreatDoorRFtlSpecD
import Derived.Test.YtocinobbocjikaaGreatDoorRWearImplD
namespace Go.Proofs.YtocinobbocjikaaGreatDoor
open Go.RowKit
set_option linter.unusedVariables false
set_option maxRecDepth 20000

theorem leastK_in {z : Int} {qs : List Sq} (h : chipOk z qs = true) : ∀ k, k ≤ qs.length → -1 ≤ leastK qs k ∧ leastK qs k ≤ 1000000
  | 0, _ => by simp [leastK]
  | k + 1, hk => by
    have h1 := leastK_in h k (by omega)
    have h2 := sqOk_parts (chipOk_at h (show k < qs.length by omega))
    unfold leastK
    split
    · exact h1
    · split
      · omega
      · exact h1
theorem mostK_in {z : Int} {qs : List Sq} (h : chipOk z qs = true) : ∀ k, k ≤ qs.length → -1 ≤ mostK qs k ∧ mostK qs k ≤ 1000000
  | 0, _ => by simp [mostK]
  | k + 1, hk => by
    have h1 := mostK_in h k (by omega)
    have h2 := sqOk_parts (chipOk_at h (show k < qs.length by omega))
    unfold mostK
    split
    · exact h1
    · split
      · exact h1
      · omega
theorem worn_in {z : Int} {qs : List Sq} (h : chipOk z qs = true) : (-1 ≤ (worn z qs).1 ∧ (worn z qs).1 ≤ 1000000) ∧ (-1 ≤ (worn z qs).2 ∧ (worn z qs).2 ≤ 1000000) := by
  unfold worn
  rw [if_pos h]
  exact ⟨leastK_in h _ (Nat.le_refl _), mostK_in h _ (Nat.le_refl _)⟩

set_option maxHeartbeats 1600000 in
theorem specLevel_any (z : Int) (a : Option Addr) (n cap : Nat) (qs : List Sq) (am : Option Addr) (m cm : Nat) (ps : List Pl) (op st : Int) (w : World) {lo hi lo' hi' : Nat} (h : Squares lo hi w a n qs) (hhi : hi ≤ w.heap.size) (hn : n ≤ 1048576) (hf : ∀ x ∈ qs, sqFits x) (hp : Places lo' hi' w am m ps) (hhi' : hi' ≤ w.heap.size) (hm : m ≤ 1048576) :
    Calls Tryz.prog 33 #[.agg #[.int .i64 z, .slice a n cap, .slice am m cm, .int .i64 op, .int .i64 st]] w fun e w' => e = .returned (.int .i64 (ftlLevel z qs ps op st)) ∧ Below w.heap.size w w' := by
  obtain ⟨wA, hwA⟩ : ∃ wA, wA = w.alloc (.cells #[.int .i64 z, .slice a n cap, .slice am m cm, .int .i64 op, .int .i64 st] 29) := ⟨_, rfl⟩
  have hzA : wA.heap.size = w.heap.size + 1 := by rw [hwA]; simp
  have HBA : Hid (Below w.heap.size w wA) := by rw [hwA]; exact (Below.refl _ _).alloc (Nat.le_refl _) _
  have H1 : Hid (wA.heap[w.heap.size]? = some (.cells #[.int .i64 z, .slice a n cap, .slice am m cm, .int .i64 op, .int .i64 st] 29)) := by rw [hwA]; exact heap_new _ _
  have HSQ := hide (h.later HBA.out hhi)
  have HPL := hide (hp.later HBA.out hhi')
  have HF := hide hf
  clear h hf hp
  obtain ⟨c0, c1, c2, c3, c4⟩ := five_cells H1.out
  go_enter Tryz.func33, Tryz.ntmps33
  go_wp2_with fail
  rw [← hwA]
  clear hwA
  refine (specFtlOk_any z a n cap qs am m cm ps op st wA HSQ.out (by omega) hn HF.out HPL.out (by omega) hm).mono ?_
  rintro e w1 ⟨rfl, b1⟩
  have K1 := hide (block_on H1.out b1)
  have HS1 := hide (HSQ.out.later b1 (by omega))
  have HB1 := hide (below_here HBA.out b1)
  have hs1 := b1.size
  clear b1 H1 HSQ HPL HBA c0 c1 c2 c3 c4
  obtain ⟨c0, c1, c2, c3, c4⟩ := five_cells K1.out
  cases hok : ftlOk z qs ps op st with
  | false =>
    have HE : Hid (ftlLevel z qs ps op st = -1) := by show _ = _; unfold ftlLevel; rw [hok]; rfl
    go_wp2_with fail
    go_ret
    exact ⟨by rw [HE.out]; rfl, HB1.out⟩
  | true =>
    have HE : Hid (ftlLevel z qs ps op st = if (worn z qs).1 < 0 then -1 else (worn z qs).2 - (worn z qs).1) := by show _ = _; unfold ftlLevel; rw [hok]; rfl
    have HCK := hide (mapOk_chip (ftlOk_map hok))
    clear hok
    go_wp2_with fail
    refine (specWorn_any z a n cap qs w1 HS1.out (by omega) hn HF.out).mono ?_
    rintro e w2 ⟨rfl, b2⟩
    have HB2 := hide (below_here HB1.out b2)
    clear b2
    have hwi := worn_in HCK.out
    obtain ⟨g, hg⟩ : ∃ g, g = worn z qs := ⟨_, rfl⟩
    have HG := hide hg
    rw [← hg] at HE hwi
    rw [← hg]
    clear hg
    obtain ⟨x, y⟩ := g
    dsimp only at HE hwi
    by_cases hx : x < 0
    · have g0 : decide (x < 0) = true := by simpa using hx
      have HE2 : Hid (ftlLevel z qs ps op st = -1) := by show _ = _; rw [HE.out, if_pos hx]
      go_wp2_with fail
      go_ret
      exact ⟨by rw [HE2.out]; rfl, HB2.out⟩
    · have g0 : decide (x < 0) = false := by simpa using hx
      have HE2 : Hid (ftlLevel z qs ps op st = y - x) := by show _ = _; rw [HE.out, if_neg hx]
      have hw : IntKind.i64.wrap (y - x) = y - x := by rw [IntKind.wrap_i64]; omega
      go_wp2_with fail
      go_ret
      exact ⟨by rw [HE2.out]; rfl, HB2.out⟩

set_option maxHeartbeats 3200000 in
theorem l10Get_any (z : Int) (a : Option Addr) (n cap : Nat) (qs : List Sq) (am : Option Addr) (m cm : Nat) (ps : List Pl) (op st : Int) (k : Nat) (w : World) {lo hi lo' hi' : Nat} (h : Squares lo hi w a n qs) (hhi : hi ≤ w.heap.size) (hn : n ≤ 1048576) (hf : ∀ x ∈ qs, sqFits x) (hp : Places lo' hi' w am m ps) (hhi' : hi' ≤ w.heap.size) (hm : m ≤ 64) (hlt : k < m) (hok : chipOk z qs = true) :
    Calls Tryz.prog 58 #[.agg #[.int .i64 z, .slice a n cap, .slice am m cm, .int .i64 op, .int .i64 st], .int .i64 (k : Int)] w fun e w' => e = .returned (.tuple #[.string (if plAt ps k == (-1, 0) then ByteArray.empty else (pgOf z qs (plAt ps k)).2.2.2.1), .bool (!(plAt ps k == (-1, 0)) && ((pgOf z qs (plAt ps k)).1 == 1))]) ∧ Below w.heap.size w w' := by
  obtain ⟨wr, hwA⟩ : ∃ wA, wA = w.alloc (.cells #[.int .i64 z, .slice a n cap, .slice am m cm, .int .i64 op, .int .i64 st] 29) := ⟨_, rfl⟩
  have hzA : wr.heap.size = w.heap.size + 1 := by rw [hwA]; simp
  have HBA : Hid (Below w.heap.size w wr) := by rw [hwA]; exact (Below.refl _ _).alloc (Nat.le_refl _) _
  have KR : Hid (wr.heap[w.heap.size]? = some (.cells #[.int .i64 z, .slice a n cap, .slice am m cm, .int .i64 op, .int .i64 st] 29)) := by rw [hwA]; exact heap_new _ _
  have HS3 := hide (h.later HBA.out hhi)
  have HP3 := hide (hp.later HBA.out hhi')
  have HF := hide hf
  have HCK := hide hok
  clear h hf hp hok
  obtain ⟨a0, a1, a2, a3, a4⟩ := five_cells KR.out
  obtain ⟨b, off, rfl, _, hb, hc⟩ := HP3.out.2.2 (by omega)
  have hbs : b < wr.heap.size := by have := HP3.out.2.1; omega
  obtain ⟨c0, c1⟩ := pl_cells hc (Below.refl wr.heap.size wr) hbs hlt
  have HC := hide hc
  clear hc
  obtain ⟨y, hy⟩ : ∃ y, y = plAt ps k := ⟨_, rfl⟩
  have HY := hide hy
  rw [← hy] at c0 c1
  rw [← hy, pl_eq]
  clear hy
  obtain ⟨p, q⟩ := y
  dsimp only at c0 c1
  dsimp only
  obtain ⟨tx, htx⟩ : ∃ t, t = (if (p == -1 && q == 0) = true then ByteArray.empty else (pgOf z qs (p, q)).2.2.2.1) := ⟨_, rfl⟩
  obtain ⟨bx, hbx⟩ : ∃ t, t = (!(p == -1 && q == 0) && (pgOf z qs (p, q)).1 == 1) := ⟨_, rfl⟩
  rw [← htx, ← hbx]
  have HTX := hide htx
  have HBX := hide hbx
  clear htx hbx
  go_enter Tryz.func58, Tryz.ntmps58
  go_upto_region 1 with fail
  rw [← hwA]
  clear hwA
  have cN : ∀ d os, Calls Tryz.prog 55 #[] (Go.Sort.grow (redrawn wr d) os) fun e w'' => e = .returned (.agg #[.int .i64 (-1), .int .i64 0]) ∧ ∃ p : Regrown, w'' = Go.Sort.grow (redrawn wr p.d) p.os := fun d os => Calls.regrown_of (l9None_any _)
  have k0 := cell_regrown c0
  have k1 := cell_regrown c1
  have k2 := cell_regrown a2
  have q1 := Tryz.eqPl p q (-1) 0
  have q2 := Tryz.guardPl
  go_cut [14] (fun c wx => c = .bool ((p == -1) && (q == 0)) ∧ Below wr.heap.size wr wx)
  case first =>
    refine wp_region_quiet_below (by kernel_rfl) (by kernel_rfl) ?_
    repeat (go_big_quiet_step ((go_at_call 55; exact cN _ _)))
    refine wpQuiet_nil ?_
    intro _ hw'
    obtain ⟨⟨dq, osq⟩, hw''⟩ := hw'
    subst hw''
    have HBQ := hide (below_regrown wr dq osq)
    go_wp2_with fail
    go_meet
    exact ⟨rfl, HBQ.out⟩
  case rest =>
    obtain ⟨rfl, hb2⟩ := hcut
    obtain ⟨w4, hw4⟩ : ∃ w4, w4 = wc := ⟨_, rfl⟩
    subst hw4
    have HB4 := hide hb2
    have K4 := hide (block_on KR.out hb2)
    clear hb2 k0 k1 k2 cN q1 c0 c1 a0 a1 a2 a3 a4 KR
    cases hnone : ((p == -1) && (q == 0)) with
    | true =>
      have HB5 := hide (below_here HBA.out HB4.out)
      go_wp2_with fail
      have HT2 : Hid (tx = ByteArray.empty) := by show _ = _; rw [HTX.out, hnone]; rfl
      have HX2 : Hid (bx = false) := by show _ = _; rw [HBX.out, hnone]; rfl
      go_ret2
      exact ⟨by rw [HT2.out, HX2.out]; rfl, HB5.out⟩
    | false =>
      obtain ⟨r, hr⟩ : ∃ r, r = pgOf z qs (p, q) := ⟨_, rfl⟩
      have hs4 := HB4.out.size
      have HCL : ∀ w', Hid (Below w4.heap.size w4 w' → Calls Tryz.prog 56 #[.agg #[.int .i64 z, .slice a n cap], .agg #[.int .i64 p, .int .i64 q]] w' fun e w'' => e = .returned (lyV r) ∧ Below w'.heap.size w' w'') := fun w' hb' => by
        rw [hr]
        have hs' := hb'.size
        exact l10Page_any z a n cap qs p q w' (HS3.out.later (below_here HB4.out hb') (by omega)) (by omega) hn HF.out HCK.out
      have HR := hide hr
      have HT2 : Hid (tx = r.2.2.2.1) := by show _ = _; rw [HTX.out, hnone, hr]; rfl
      have HX2 : Hid (bx = (r.1 == 1)) := by show _ = _; rw [HBX.out, hnone, hr]; rfl
      clear hr hnone HTX HBX
      obtain ⟨r0, r1, r2, r3, r4⟩ := r
      unfold lyV at HCL
      dsimp only at HCL
      obtain ⟨a0, a1, a2, a3, a4⟩ := five_cells K4.out
      obtain ⟨c0, c1⟩ := pl_cells HC.out HB4.out hbs hlt
      rw [← HY.out] at c0 c1
      dsimp only at c0 c1
      have hwz : w.heap.size < w4.heap.size := by omega
      have HK : ∀ w', Hid (Below w4.heap.size w4 w' → w'.cell? ⟨w.heap.size, 0, none⟩ = some (.int .i64 z) ∧ w'.cell? ⟨w.heap.size, 1, none⟩ = some (.slice a n cap) ∧ w'.cell? ⟨w.heap.size, 2, none⟩ = some (.slice (some ⟨b, off, none⟩) m cm) ∧ w'.cell? ⟨b, off + k * 2, none⟩ = some (.int .i64 p) ∧ w'.cell? ⟨b, off + k * 2 + 1, none⟩ = some (.int .i64 q)) := fun w' hb' => ⟨(hb'.cell (p := ⟨_, _, none⟩) hwz).trans a0, (hb'.cell (p := ⟨_, _, none⟩) hwz).trans a1, (hb'.cell (p := ⟨_, _, none⟩) hwz).trans a2, (hb'.cell (p := ⟨_, _, none⟩) (by show b < _; omega)).trans c0, (hb'.cell (p := ⟨_, _, none⟩) (by show b < _; omega)).trans c1⟩
      go_upto_region 3 with fail
      go_cut [6] (fun v wx => ∃ g, v = .pointer (some ⟨g, 0, none⟩) ∧ wx.heap[g]? = some (.cells #[.int .i64 r0, .int .i64 r1, .int .i64 r2, .string r3] 31) ∧ Below w4.heap.size w4 wx)
      case first =>
        have HB0 : Hid (Below w4.heap.size w4 w4.drew) := (Below.refl w4.heap.size w4).drew
        have HBa : Hid (Below w4.heap.size w4 (w4.alloc (.cells #[.int .i64 0, .int .i64 0, .int .i64 0, .string ⟨#[]⟩] 31)).drew) := ((Below.refl w4.heap.size w4).alloc (Nat.le_refl _) _).drew
        have HEa : Hid ((w4.alloc (.cells #[.int .i64 0, .int .i64 0, .int .i64 0, .string ⟨#[]⟩] 31)).drew.heap[w4.heap.size]? = some (.cells #[.int .i64 0, .int .i64 0, .int .i64 0, .string ⟨#[]⟩] 31)) := heap_new w4 _
        go_region_held3 (fun w' => w'.cell? ⟨w.heap.size, 0, none⟩ = some (.int .i64 z) ∧ w'.cell? ⟨w.heap.size, 1, none⟩ = some (.slice a n cap) ∧ w'.cell? ⟨w.heap.size, 2, none⟩ = some (.slice (some ⟨b, off, none⟩) m cm) ∧ w'.cell? ⟨b, off + k * 2, none⟩ = some (.int .i64 p) ∧ w'.cell? ⟨b, off + k * 2 + 1, none⟩ = some (.int .i64 q))
          (first | exact (HK _).out HB0.out | exact (HK _).out HBa.out | exact (HK _).out HB5.out | exact (HK _).out HBS.out | exact (HK _).out HB6.out | exact ⟨a0, a1, a2, c0, c1⟩ | fail)
          (first
            | (go_at_call 56; refine ((HCL _).out HB0.out).mono ?_; rintro e w5 ⟨rfl, b5⟩; have HB5 := hide (below_here HB0.out b5); have hs5 := b5.size; have HB6 := hide (HB5.out.alloc HB5.out.size (.cells #[.int .i64 0, .int .i64 0, .int .i64 0, .string ⟨#[]⟩] 31)); have HBS := hide (HB5.out.alloc HB5.out.size (.cells #[.int .i64 r0, .int .i64 r1, .int .i64 r2, .string r3] 31)); have HRS := hide (heap_new w5 (.cells #[.int .i64 r0, .int .i64 r1, .int .i64 r2, .string r3] 31)))
            | (go_at_call 56; refine ((HCL _).out HBa.out).mono ?_; rintro e w5 ⟨rfl, b5⟩; have HB5 := hide (below_here HBa.out b5); have hs5 := b5.size; have E5 := hide (block_on HEa.out b5); obtain ⟨e0, e1, e2, e3⟩ := four_cells E5.out; have f0 := four_frozen E5.out 0; have f1 := four_frozen E5.out 1; have f2 := four_frozen E5.out 2; have f3 := four_frozen E5.out 3; have HRS := hide (four_set E5.out (.int .i64 r0) (.int .i64 r1) (.int .i64 r2) (.string r3)); have HBS := hide (four_below (b := w4.heap.size) HB5.out (Nat.le_refl _) (.int .i64 r0) (.int .i64 r1) (.int .i64 r2) (.string r3))))

        all_goals
          clear HB0 HBa HEa HK HCL a0 a1 a2 a3 a4 c0 c1 b5 HB5 hs5
          go_wp2_with fail
          go_meet
          exact ⟨_, rfl, HRS.out, HBS.out⟩
      case rest =>
        obtain ⟨g, rfl, hrs, hb5⟩ := hcut
        obtain ⟨w5, hw5⟩ : ∃ w5, w5 = wc := ⟨_, rfl⟩
        subst hw5
        have HB7 := hide (below_here HB4.out hb5)
        have HB8 := hide (below_here HBA.out HB7.out)
        clear hb5 HK HCL a0 a1 a2 a3 a4 c0 c1
        obtain ⟨d0, d1, d2, d3⟩ := four_cells hrs
        go_wp2_with fail
        have HB9 : Hid (Below w.heap.size w w5.drew) := HB8.out.drew
        go_region_held3 (fun w' => w'.cell? ⟨g, 0, none⟩ = some (.int .i64 r0) ∧ w'.cell? ⟨g, 3, none⟩ = some (.string r3)) (exact ⟨d0, d3⟩) (fail)
        all_goals
          go_wp2_with fail
          go_ret2
          exact ⟨by rw [HT2.out, HX2.out]; rfl, HB9.out⟩

set_option maxHeartbeats 1600000 in
theorem specGet_any (z : Int) (a : Option Addr) (n cap : Nat) (qs : List Sq) (am : Option Addr) (m cm : Nat) (ps : List Pl) (op st at_ : Int) (w : World) {lo hi lo' hi' : Nat} (h : Squares lo hi w a n qs) (hhi : hi ≤ w.heap.size) (hn : n ≤ 1048576) (hf : ∀ x ∈ qs, sqFits x) (hp : Places lo' hi' w am m ps) (hhi' : hi' ≤ w.heap.size) (hm : m ≤ 1048576) :
    Calls Tryz.prog 17 #[.agg #[.int .i64 z, .slice a n cap, .slice am m cm, .int .i64 op, .int .i64 st], .int .i64 at_] w fun e w' => e = .returned (.tuple #[.string (ftlGet z qs ps op st at_).1, .bool (ftlGet z qs ps op st at_).2]) ∧ Below w.heap.size w w' := by
  obtain ⟨gg, hgg⟩ : ∃ g, g = ftlGet z qs ps op st at_ := ⟨_, rfl⟩
  have HG := hide hgg
  rw [← hgg]
  clear hgg
  obtain ⟨wA, hwA⟩ : ∃ wA, wA = w.alloc (.cells #[.int .i64 z, .slice a n cap, .slice am m cm, .int .i64 op, .int .i64 st] 29) := ⟨_, rfl⟩
  have hzA : wA.heap.size = w.heap.size + 1 := by rw [hwA]; simp
  have HBA : Hid (Below w.heap.size w wA) := by rw [hwA]; exact (Below.refl _ _).alloc (Nat.le_refl _) _
  have H1 : Hid (wA.heap[w.heap.size]? = some (.cells #[.int .i64 z, .slice a n cap, .slice am m cm, .int .i64 op, .int .i64 st] 29)) := by rw [hwA]; exact heap_new _ _
  have HSQ := hide (h.later HBA.out hhi)
  have HPL := hide (hp.later HBA.out hhi')
  have HLP := hide hp.1
  have HF := hide hf
  clear h hf hp
  obtain ⟨c0, c1, c2, c3, c4⟩ := five_cells H1.out
  go_enter Tryz.func17, Tryz.ntmps17
  go_wp2_with fail
  rw [← hwA]
  clear hwA
  refine (specFtlOk_any z a n cap qs am m cm ps op st wA HSQ.out (by omega) hn HF.out HPL.out (by omega) hm).mono ?_
  rintro e w1 ⟨rfl, b1⟩
  have K1 := hide (block_on H1.out b1)
  have HS1 := hide (HSQ.out.later b1 (by omega))
  have HP1 := hide (HPL.out.later b1 (by omega))
  have HB1 := hide (below_here HBA.out b1)
  have hs1 := b1.size
  clear b1 H1 HSQ HPL HBA c0 c1 c2 c3 c4
  obtain ⟨c0, c1, c2, c3, c4⟩ := five_cells K1.out
  cases hok : ftlOk z qs ps op st with
  | false =>
    have HE : Hid (gg = (ByteArray.empty, false)) := by show _ = _; rw [HG.out]; unfold ftlGet; rw [hok]; rfl
    go_wp2_with fail
    go_ret2
    exact ⟨by rw [HE.out]; rfl, HB1.out⟩
  | true =>
    have HCK := hide (mapOk_chip (ftlOk_map hok))
    have hm64 : m ≤ 64 := by have := (mapOk_len (ftlOk_map hok)).2; rw [HLP.out] at this; exact this
    go_wp2_with fail
    refine (l1In_any at_ 0 ((m : Int) - 1) w1).mono ?_
    rintro e w2 ⟨rfl, rfl⟩
    cases hin : inB at_ 0 ((m : Int) - 1) with
    | false =>
      have HE : Hid (gg = (ByteArray.empty, false)) := by show _ = _; rw [HG.out]; unfold ftlGet; rw [HLP.out, hin]; simp
      go_wp2_with fail
      go_ret2
      exact ⟨by rw [HE.out]; rfl, HB1.out⟩
    | true =>
      have hin2 := hin
      unfold inB at hin2
      simp only [Bool.and_eq_true, decide_eq_true_eq] at hin2
      obtain ⟨k, rfl⟩ : ∃ k : Nat, at_ = (k : Int) := ⟨at_.toNat, by omega⟩
      have hlt : k < m := by omega
      have HE : Hid (gg = (if plAt ps k == (-1, 0) then ByteArray.empty else (pgOf z qs (plAt ps k)).2.2.2.1, !(plAt ps k == (-1, 0)) && ((pgOf z qs (plAt ps k)).1 == 1))) := by
        show _ = _
        rw [HG.out]
        unfold ftlGet
        rw [hok, HLP.out, hin, Int.toNat_natCast]
        cases plAt ps k == (-1, 0) <;> simp
      clear hok hin HG
      go_wp2_with fail
      refine (l10Get_any z a n cap qs am m cm ps op st k w1 HS1.out (by omega) hn HF.out HP1.out (by omega) hm64 hlt HCK.out).mono ?_
      rintro e w2 ⟨rfl, b2⟩
      have HB2 := hide (below_here HB1.out b2)
      clear b2
      obtain ⟨t, ht⟩ : ∃ t, t = (if plAt ps k == (-1, 0) then ByteArray.empty else (pgOf z qs (plAt ps k)).2.2.2.1) := ⟨_, rfl⟩
      obtain ⟨u, hu⟩ : ∃ u, u = (!(plAt ps k == (-1, 0)) && ((pgOf z qs (plAt ps k)).1 == 1)) := ⟨_, rfl⟩
      rw [← ht, ← hu] at HE
      rw [← ht, ← hu]
      clear ht hu
      go_wp2_with fail
      go_ret2
      exact ⟨by rw [HE.out]; rfl, HB2.out⟩
end Go.Proofs.YtocinobbocjikaaGreatDoor
