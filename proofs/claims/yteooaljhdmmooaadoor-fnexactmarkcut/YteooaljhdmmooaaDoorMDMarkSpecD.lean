/- Several texts in one: MarkSpecD, MarkSpecE. -/
import Derived.Test.YteooaljhdmmooaaDoorMDMarkSpecC
import Derived.Test.YteooaljhdmmooaaDoorMDMarkImplA
import Derived.Deep.RegionHeld3
section
namespace Go.Proofs.YteooaljhdmmooaaDoor
open Go.RowKit
set_option linter.unusedVariables false
set_option linter.unusedSimpArgs false
set_option maxRecDepth 20000

theorem nums_read {s : ByteArray} {m : Mk} (h : MkOf s m) {xs : List Int} {ok : Bool} (hn : NumsTo ((wordsL (s.extract 0 (s.size - 2)).data.toList).map mkB) xs ok) : ok = true ∧ xs = [(m.1 : Int), (m.2.1 : Int), if m.2.2 then 1 else 0] := by
  rw [h.line, wordsL_line] at hn
  have h2 := hn [m.1, m.2.1, if m.2.2 then 1 else 0] (by
    intro k hk
    simp only [List.mem_cons, List.not_mem_nil, or_false] at hk
    rcases hk with rfl | rfl | rfl
    · exact h.1.1
    · exact h.1.2
    · split <;> omega) (by
    simp only [List.map_cons, List.map_nil, mkB_list]
    cases m.2.2
    · rw [show (if false = true then 1 else 0 : Nat) = 0 from rfl, dec_small (n := 0) (by omega)]; rfl
    · rw [show (if true = true then 1 else 0 : Nat) = 1 from rfl, dec_small (n := 1) (by omega)]; rfl)
  refine ⟨h2.2, h2.1.trans ?_⟩
  simp only [List.map_cons, List.map_nil]
  cases m.2.2 <;> rfl
theorem readM_no {s : ByteArray} {xs : List Int} {ok : Bool} (hn : NumsTo ((wordsL (s.extract 0 (s.size - 2)).data.toList).map mkB) xs ok) (h : ok = false ∨ xs.length ≠ 3) : readM s = none :=
  readM_none fun m hm => by
    obtain ⟨h1, h2⟩ := nums_read hm hn
    rcases h with h | h
    · rw [h1] at h; cases h
    · rw [h2] at h; exact h rfl
theorem readM_yes {s : ByteArray} {x0 x1 x2 : Int} (h2 : 2 ≤ s.size) (hs : showF (x0, x1, decide (x2 = 1)) = s) : ∃ m : Mk, readM s = some m ∧ (m.1 : Int) = x0 ∧ (m.2.1 : Int) = x1 ∧ m.2.2 = decide (x2 = 1) := by
  unfold showF at hs
  split at hs
  · rename_i hin
    simp only [miIn, Bool.and_eq_true, decide_eq_true_eq] at hin
    refine ⟨(x0.toNat, x1.toNat, decide (x2 = 1)), readM_some ⟨⟨?_, ?_⟩, hs.symm⟩, ?_, ?_, rfl⟩ <;> show _ <;> simp only <;> omega
  · rw [← hs] at h2
    exact absurd h2 (by decide)
theorem readM_not {s : ByteArray} {x0 x1 x2 : Int} {ok : Bool} (hn : NumsTo ((wordsL (s.extract 0 (s.size - 2)).data.toList).map mkB) [x0, x1, x2] ok) (hs : showF (x0, x1, decide (x2 = 1)) ≠ s) : readM s = none :=
  readM_none fun m hm => by
    obtain ⟨h1, h2⟩ := nums_read hm hn
    injection h2 with e0 h2
    injection h2 with e1 h2
    injection h2 with e2 h2
    apply hs
    have hb : decide (x2 = 1) = m.2.2 := by rw [e2]; cases m.2.2 <;> rfl
    rw [e0, e1, hb, hm.2]
    have hin := hm.1
    unfold MkIn at hin
    unfold showF
    rw [if_pos (by simp [miIn]; omega)]
    rfl
theorem wRun_size : ∀ (l : List UInt8) (st : List (List UInt8) × List UInt8) (N : Nat), (∀ x ∈ st.1, x.length ≤ N) → st.2.length ≤ N → (∀ x ∈ (l.foldl wStep st).1, x.length ≤ N + l.length) ∧ (l.foldl wStep st).2.length ≤ N + l.length
  | [], st, N, h1, h2 => ⟨h1, h2⟩
  | c :: l, st, N, h1, h2 => by
    rw [List.foldl_cons, show N + (c :: l).length = (N + 1) + l.length by simp; omega]
    refine wRun_size l _ (N + 1) ?_ ?_
    · intro x hx
      unfold wStep at hx
      split at hx
      · rcases List.mem_append.1 hx with h | h
        · have := h1 x h; omega
        · rw [List.mem_singleton.1 h]; omega
      · have := h1 x hx; omega
    · unfold wStep
      split
      · simp
      · simp; omega
theorem wordsL_len (l x : List UInt8) (h : x ∈ wordsL l) : x.length ≤ l.length := by
  have := wRun_size l ([], []) 0 (by simp) (by simp)
  rw [Nat.zero_add] at this
  rcases List.mem_append.1 h with h | h
  · exact this.1 x h
  · rw [List.mem_singleton.1 h]; exact this.2

set_option maxHeartbeats 1600000 in
theorem specReadMark_any (s : ByteArray) (hs : s.size ≤ 1048576) (w : World) :
    Calls Tryd.prog 49 #[.string s] w fun r w' => r = .returned (.tuple #[optV (readM s), .bool (readM s).isSome]) ∧ Below w.heap.size w w' := by
  obtain ⟨w0, hw0⟩ : ∃ w0, w0 = w.alloc (.cells #[.int .i64 0, .int .i64 0, .bool false] 25) := ⟨_, rfl⟩
  have HB0 : Hid (Below w.heap.size w w0) := by rw [hw0]; exact (Below.refl _ _).alloc (Nat.le_refl _) _
  have HK : Hid (w0.heap[w.heap.size]? = some (.cells #[.int .i64 0, .int .i64 0, .bool false] 25)) := by rw [hw0]; exact heap_new _ _
  have hs0 : w0.heap.size = w.heap.size + 1 := by rw [hw0]; simp
  by_cases h2 : 2 ≤ s.size
  · have hlen : (s.extract 0 (s.size - 2)).size ≤ 1048576 := by simp; omega
    go_enter Tryd.func49, Tryd.ntmps49
    go_wp2_with fail
    rw [← hw0]
    clear hw0
    refine (l1Words_any _ hlen _).mono ?_
    rintro r w1 ⟨a1, n1, c1, rfl, hn1, hot, b1⟩
    have HOT := hide hot
    have HB1 := hide (below_here HB0.out b1)
    have HK1 := hide (block_on HK.out b1)
    have hs1 := b1.size
    rw [hs0] at hs1
    clear b1 hot HB0 HK hs0
    have HTS : Hid (∀ x ∈ (wordsL (s.extract 0 (s.size - 2)).data.toList).map mkB, x.size ≤ 1048576) := by
      intro x hx
      obtain ⟨l, hl, rfl⟩ := List.mem_map.1 hx
      rw [mkB_size]
      have h1 := wordsL_len _ l hl
      have h3 : (s.extract 0 (s.size - 2)).data.toList.length = (s.extract 0 (s.size - 2)).size := by simp
      omega
    go_wp2_with fail
    refine (l1Numbers_any a1 n1 c1 _ w1 HOT.out.texts hn1 HTS.out).mono ?_
    rintro r w2 ⟨a2, n2, c2, xs, ok, rfl, hn2, hoi, hsm, hnt, b2⟩
    have HOI := hide hoi
    have HB2 := hide (below_here HB1.out b2)
    have HK2 := hide (block_on HK1.out b2)
    have HNT := hide hnt
    have HXL := hide hoi.1
    have HSM := hide hsm
    have hs2 : w.heap.size + 1 ≤ w2.heap.size := Nat.le_trans hs1 b2.size
    clear b2 hoi hnt hsm HOT HB1 HK1 HTS hs1 hn1 hlen hn2
    obtain ⟨d0, d1, d2⟩ := mk_cells HK2.out
    have f0 := mk_frozen HK2.out 0
    have f1 := mk_frozen HK2.out 1
    have f2 := mk_frozen HK2.out 2
    have HF := hide (mk_set HK2.out (.int .i64 0) (.int .i64 0) (.bool false))
    have HG := hide (mk_below HB2.out (Nat.le_refl _) (.int .i64 0) (.int .i64 0) (.bool false))
    cases ok with
    | false =>
      have HN : Hid (readM s = none) := readM_no HNT.out (.inl rfl)
      go_wp2_with fail
      refine bodyPost_ret (results_ct rfl rfl (run_loadVar_row _ _ _ _ _ _ _ HF.out Tryd.underlying25 rfl (by kernel_rfl))) rfl ⟨?_, HG.out⟩
      rw [HN.out]; rfl
    | true =>
      by_cases h3 : n2 = 3
      · subst h3
        obtain ⟨x0, x1, x2, rfl⟩ : ∃ x0 x1 x2, xs = [x0, x1, x2] := by
          have := HXL.out
          match xs, this with
          | [a, b, c], _ => exact ⟨a, b, c, rfl⟩
        obtain ⟨hx0, hx0'⟩ := HSM.out x0 (by simp)
        obtain ⟨b, off, rfl, hlob, hbw, hcells⟩ := HOI.out.2.2 (by omega)
        have g0 : w2.cell? ⟨b, off, none⟩ = some (.int .i64 x0) := (hcells 0 (by omega)).1
        have g1 : w2.cell? ⟨b, off + 1, none⟩ = some (.int .i64 x1) := (hcells 1 (by omega)).1
        have g2 : w2.cell? ⟨b, off + 2, none⟩ = some (.int .i64 x2) := (hcells 2 (by omega)).1
        clear hcells
        have HSC : ∀ W, Hid (Below w2.heap.size w2 W → (W.cell? ⟨b, off, none⟩ = some (.int .i64 x0) ∧ W.cell? ⟨b, off + 1, none⟩ = some (.int .i64 x1) ∧ W.cell? ⟨b, off + 2, none⟩ = some (.int .i64 x2))) := fun W hb => ⟨mcell_on g0 hb, mcell_on g1 hb, mcell_on g2 hb⟩
        go_upto_region 6 with fail
        have HR0 : Hid (Below w2.heap.size w2 w2.drew) := (Below.refl w2.heap.size w2).drew
        go_region_held3 (fun W => W.cell? ⟨b, off, none⟩ = some (.int .i64 x0) ∧ W.cell? ⟨b, off + 1, none⟩ = some (.int .i64 x1) ∧ W.cell? ⟨b, off + 2, none⟩ = some (.int .i64 x2))
          (first | exact (HSC _).out HR0.out | exact (HSC _).out (HR0.out.alloc HR0.out.size _) | fail) (fail)
        obtain ⟨fl, hfl⟩ : ∃ fl, fl = (x2 == 1) := ⟨_, rfl⟩
        rw [← hfl]
        obtain ⟨w3, hw3⟩ : ∃ w3, w3 = (w2.alloc (.cells #[.int .i64 x0, .int .i64 x1, .bool fl] 25)).drew := ⟨_, rfl⟩
        have hb3 : Below w2.heap.size w2 w3 := by rw [hw3]; exact ((Below.refl _ _).alloc (Nat.le_refl _) _).drew
        have HB3 := hide (below_here HB2.out hb3)
        have HK3 := hide (block_on HK2.out hb3)
        have HM3 : Hid (w3.heap[w2.heap.size]? = some (.cells #[.int .i64 x0, .int .i64 x1, .bool fl] 25)) := by rw [hw3]; exact heap_new _ _
        have hs3 : w2.heap.size < w3.heap.size := (Array.getElem?_eq_some_iff.1 HM3.out).1
        rw [← hw3]
        have HFL : Hid (fl = decide (x2 = 1)) := hfl
        clear hb3 hw3 HR0 HSC g0 g1 g2 d0 d1 d2 f0 f1 f2 HF HG HB2 HK2 hfl HOI hlob hbw HXL HSM hx0 hx0'
        obtain ⟨e0, e1, e2⟩ := mk_cells HM3.out
        go_wp2_with fail
        refine (specShowMark_any x0 x1 fl w3).mono ?_
        rintro r w4 ⟨rfl, b4⟩
        have HB4 := hide (below_here HB3.out b4)
        have HK4 := hide (block_on HK3.out b4)
        have HM4 := hide (block_on HM3.out b4)
        have hs4 := b4.size
        clear b4 e0 e1 e2 HB3 HK3 HM3
        obtain ⟨d0, d1, d2⟩ := mk_cells HK4.out
        have f0 := mk_frozen HK4.out 0
        have f1 := mk_frozen HK4.out 1
        have f2 := mk_frozen HK4.out 2
        obtain ⟨e0, e1, e2⟩ := mk_cells HM4.out
        obtain ⟨t, ht⟩ : ∃ t, t = showF (x0, x1, fl) := ⟨_, rfl⟩
        rw [← ht]
        have HT := hide ht
        clear ht
        by_cases heq : t = s
        · have hne : (t.toList == s.toList) = true := by simp [heq]
          have HY : Hid (∃ m : Mk, readM s = some m ∧ (m.1 : Int) = x0 ∧ (m.2.1 : Int) = x1 ∧ m.2.2 = fl) := by
            rw [HFL.out]
            exact readM_yes h2 (by rw [← HFL.out, ← HT.out]; exact heq)
          have HF := hide (mk_set HK4.out (.int .i64 x0) (.int .i64 x1) (.bool fl))
          have HG := hide (mk_below HB4.out (Nat.le_refl _) (.int .i64 x0) (.int .i64 x1) (.bool fl))
          clear heq
          go_wp2_with fail
          refine bodyPost_ret (results_ct rfl rfl (run_loadVar_row _ _ _ _ _ _ _ HF.out Tryd.underlying25 rfl (by kernel_rfl))) rfl ⟨?_, HG.out⟩
          obtain ⟨m, hm, rfl, rfl, rfl⟩ := HY.out
          rw [hm]; rfl
        · have hne : (t.toList == s.toList) = false := by
            rw [text_eq]; simp [heq]
          have HN : Hid (readM s = none) := readM_not HNT.out (by rw [← HFL.out, ← HT.out]; exact heq)
          have HF := hide (mk_set HK4.out (.int .i64 0) (.int .i64 0) (.bool false))
          have HG := hide (mk_below HB4.out (Nat.le_refl _) (.int .i64 0) (.int .i64 0) (.bool false))
          clear heq
          go_wp2_with fail
          refine bodyPost_ret (results_ct rfl rfl (run_loadVar_row _ _ _ _ _ _ _ HF.out Tryd.underlying25 rfl (by kernel_rfl))) rfl ⟨?_, HG.out⟩
          rw [HN.out]; rfl
      · have hn3 : ¬ (n2 : Int) = 3 := by omega
        have HN : Hid (readM s = none) := readM_no HNT.out (.inr (by rw [HXL.out]; exact h3))
        have hn4 : ((n2 : Int) != 3) = true := by simp; omega
        go_wp2_with fail
        refine bodyPost_ret (results_ct rfl rfl (run_loadVar_row _ _ _ _ _ _ _ HF.out Tryd.underlying25 rfl (by kernel_rfl))) rfl ⟨?_, HG.out⟩
        rw [HN.out]; rfl
  · have HN : Hid (readM s = none) := readM_none fun m hm => by
      have := hm.whole
      unfold whole at this
      simp at this
      omega
    obtain ⟨d0, d1, d2⟩ := mk_cells HK.out
    have f0 := mk_frozen HK.out 0
    have f1 := mk_frozen HK.out 1
    have f2 := mk_frozen HK.out 2
    have HF := hide (mk_set HK.out (.int .i64 0) (.int .i64 0) (.bool false))
    have HG := hide (mk_below HB0.out (Nat.le_refl _) (.int .i64 0) (.int .i64 0) (.bool false))
    go_enter Tryd.func49, Tryd.ntmps49
    go_upto_region 2 with fail
    rw [← hw0]
    clear hw0
    go_wp2_with fail
    refine bodyPost_ret (results_ct rfl rfl (run_loadVar_row _ _ _ _ _ _ _ HF.out Tryd.underlying25 rfl (by kernel_rfl))) rfl ⟨?_, HG.out⟩
    rw [HN.out]; rfl
end Go.Proofs.YteooaljhdmmooaaDoor
end

section
namespace Go.Proofs.YteooaljhdmmooaaDoor
open Go.RowKit
set_option linter.unusedVariables false
set_option linter.unusedSimpArgs false
set_option maxRecDepth 20000

set_option maxHeartbeats 800000 in
theorem l13Less_any (e q e' q' : Nat) (b b' : Bool) (w : World) :
    Calls Tryd.prog 38 #[markV (e : Int) (q : Int) b, markV (e' : Int) (q' : Int) b'] w fun r w' => r = .returned (.bool (lessM (e, q, b) (e', q', b'))) ∧ Below w.heap.size w w' := by
  have HB0 : Hid (Below w.heap.size w ((w.alloc (.cells #[.int .i64 (e : Int), .int .i64 (q : Int), .bool b] 25)).alloc (.cells #[.int .i64 (e' : Int), .int .i64 (q' : Int), .bool b'] 25))) := ((Below.refl _ _).alloc (Nat.le_refl _) _).alloc (by simp) _
  unfold markV
  by_cases h1 : e < e'
  · have hi : (e : Int) < (e' : Int) := by omega
    have HL : Hid (lessM (e, q, b) (e', q', b') = true) := by show _ = _; simp [lessM, h1]
    go_enter Tryd.func38, Tryd.ntmps38
    go_wp2_with fail
    go_ret
    exact ⟨by rw [HL.out]; simp; try omega, HB0.out⟩
  · have hi : ¬ (e : Int) < (e' : Int) := by omega
    by_cases he : e = e'
    · subst he
      have HL : Hid (lessM (e, q, b) (e, q', b') = decide (q < q')) := by show _ = _; simp [lessM]
      go_enter Tryd.func38, Tryd.ntmps38
      go_wp2_with fail
      go_ret
      exact ⟨by rw [HL.out]; simp; try omega, HB0.out⟩
    · have he4 : ((e : Int) == (e' : Int)) = false := by simp; omega
      have HL : Hid (lessM (e, q, b) (e', q', b') = false) := by show _ = _; simp [lessM, h1, he]
      go_enter Tryd.func38, Tryd.ntmps38
      go_wp2_with fail
      go_ret
      exact ⟨by rw [HL.out]; simp; try omega, HB0.out⟩

set_option maxHeartbeats 800000 in
theorem l13Slots_any (a : Option Addr) (n cap : Nat) (ts : List ByteArray) (w : World) {lo hi : Nat} (h : Texts lo hi w a n ts) (hn : n ≤ 1048576) (hts : ∀ s ∈ ts, s.size ≤ 1048576) :
    Calls Tryd.prog 25 #[.slice a n cap] w fun r w' => r = .returned (.bool (slotsOk ts)) ∧ w' = w := by
  have HL := hide h.1
  by_cases h2 : n = 2
  · subst h2
    have HTS := hide hts
    obtain ⟨b, off, rfl, _, _, hc⟩ := h.2.2 (by omega)
    obtain ⟨s0, s1, rfl⟩ : ∃ s0 s1, ts = [s0, s1] := by
      have := HL.out
      match ts, this with
      | [x, y], _ => exact ⟨x, y, rfl⟩
    have g0 : w.cell? ⟨b, off, none⟩ = some (.string s0) := hc 0 (by omega)
    have g1 : w.cell? ⟨b, off + 1, none⟩ = some (.string s1) := hc 1 (by omega)
    have z0 := HTS.out s0 (by simp)
    have z1 := HTS.out s1 (by simp)
    have HS : Hid (slotsOk [s0, s1] = (decide (s0.size ≤ 40) && decide (s1.size ≤ 40))) := by
      show _ = _
      simp [slotsOk]
    clear h hc hts HTS
    by_cases h0 : s0.size ≤ 40
    · have h0i : (s0.size : Int) ≤ 40 := by omega
      go_enter Tryd.func25, Tryd.ntmps25
      go_wp2_with fail
      go_ret
      exact ⟨by rw [HS.out]; simp [h0]; try omega, rfl⟩
    · have h0i : ¬ (s0.size : Int) ≤ 40 := by omega
      go_enter Tryd.func25, Tryd.ntmps25
      go_wp2_with fail
      go_ret
      exact ⟨by rw [HS.out]; simp [h0]; try omega, rfl⟩
  · have h3 : ¬ (n : Int) = 2 := by omega
    have h4 : ((n : Int) == 2) = false := by simp; omega
    have HS : Hid (slotsOk ts = false) := by
      show _ = _
      unfold slotsOk
      rw [HL.out]
      simp [h2]
    clear h hts
    go_enter Tryd.func25, Tryd.ntmps25
    go_wp2_with fail
    go_ret
    exact ⟨by rw [HS.out]; simp; try omega, rfl⟩

set_option maxHeartbeats 3200000 in
theorem specNewest_any (a : Option Addr) (n cap : Nat) (ts : List ByteArray) (w : World) {lo hi : Nat} (h : Texts lo hi w a n ts) (hn : n ≤ 1048576) (hts : ∀ s ∈ ts, s.size ≤ 1048576) :
    Calls Tryd.prog 37 #[.slice a n cap] w fun r w' => r = .returned (newV (newestF ts)) ∧ Below w.heap.size w w' := by
  have hhi := h.2.1
  obtain ⟨w0, hw0⟩ : ∃ w0, w0 = w.alloc (.cells #[.int .i64 0, .int .i64 0, .bool false] 25) := ⟨_, rfl⟩
  have HB0 : Hid (Below w.heap.size w w0) := by rw [hw0]; exact (Below.refl _ _).alloc (Nat.le_refl _) _
  have HK : Hid (w0.heap[w.heap.size]? = some (.cells #[.int .i64 0, .int .i64 0, .bool false] 25)) := by rw [hw0]; exact heap_new _ _
  have hT0 : Texts lo hi w0 a n ts := h.later HB0.out hhi
  have HL := hide h.1
  have HT := hide h
  clear h
  cases hsl : slotsOk ts
  · have HE : Hid (newestF ts = none) := newestF_no hsl
    go_enter Tryd.func37, Tryd.ntmps37
    go_upto_region 1 with fail
    rw [← hw0]
    clear hw0
    go_wp2_with fail
    refine (l13Slots_any a n cap ts w0 hT0 hn hts).mono ?_
    rw [hsl]
    rintro r w1 ⟨rfl, rfl⟩
    obtain ⟨d0, d1, d2⟩ := mk_cells HK.out
    have f0 := mk_frozen HK.out 0
    have f1 := mk_frozen HK.out 1
    have f2 := mk_frozen HK.out 2
    have HF := hide (mk_set HK.out (.int .i64 0) (.int .i64 0) (.bool false))
    have HG := hide (mk_below HB0.out (Nat.le_refl _) (.int .i64 0) (.int .i64 0) (.bool false))
    go_wp2_with fail
    refine bodyPost_ret (results_ct rfl rfl (run_loadVar_row _ _ _ _ _ _ _ HF.out Tryd.underlying25 rfl (by kernel_rfl))) rfl ⟨?_, HG.out⟩
    rw [HE.out]; rfl
  · have hn2 : n = 2 := by
      have h1 := HL.out
      unfold slotsOk at hsl
      simp at hsl
      omega
    subst hn2
    obtain ⟨s0, s1, rfl⟩ : ∃ s0 s1, ts = [s0, s1] := by
      have := HL.out
      match ts, this with
      | [x, y], _ => exact ⟨x, y, rfl⟩
    have HE := hide (newestF_two s0 s1 hsl)
    have z0 := hts s0 (by simp)
    have z1 := hts s1 (by simp)
    have HT0 := hide hT0
    have HTS := hide hts
    have HSL := hide hsl
    clear hT0 hts hsl
    go_enter Tryd.func37, Tryd.ntmps37
    go_upto_region 1 with fail
    rw [← hw0]
    clear hw0
    go_wp2_with fail
    refine (l13Slots_any a 2 cap _ w0 HT0.out (by omega) HTS.out).mono ?_
    rw [HSL.out]
    rintro r w1 ⟨rfl, rfl⟩
    obtain ⟨b, off, rfl, _, _, hc⟩ := HT.out.2.2 (by omega)
    have g0 : w.cell? ⟨b, off, none⟩ = some (.string s0) := hc 0 (by omega)
    have g1 : w.cell? ⟨b, off + 1, none⟩ = some (.string s1) := hc 1 (by omega)
    have gg0 := mcell_on g0 HB0.out
    clear hc
    go_wp2_with fail
    refine (specReadMark_any s0 z0 w1).mono ?_
    rintro r w2 ⟨rfl, b2⟩
    have HB2 := hide (below_here HB0.out b2)
    have HK2 := hide (block_on HK.out b2)
    clear b2 HB0 HK gg0
    obtain ⟨⟨E, Q, B⟩, hem⟩ : ∃ m : Mk, optV (readM s0) = markV (m.1 : Int) (m.2.1 : Int) m.2.2 := ⟨(readM s0).getD (0, 0, false), by cases readM s0 <;> rfl⟩
    obtain ⟨⟨E', Q', B'⟩, hem'⟩ : ∃ m : Mk, optV (readM s1) = markV (m.1 : Int) (m.2.1 : Int) m.2.2 := ⟨(readM s1).getD (0, 0, false), by cases readM s1 <;> rfl⟩
    obtain ⟨w3, hw3⟩ : ∃ w3, w3 = w2.alloc (.cells #[.int .i64 (E : Int), .int .i64 (Q : Int), .bool B] 25) := ⟨_, rfl⟩
    have HB3 : Hid (Below w.heap.size w w3) := by rw [hw3]; exact HB2.out.alloc HB2.out.size _
    have HK3 : Hid (w3.heap[w.heap.size]? = some (.cells #[.int .i64 0, .int .i64 0, .bool false] 25)) := by rw [hw3]; exact heap_old HK2.out
    have HM3 : Hid (w3.heap[w2.heap.size]? = some (.cells #[.int .i64 (E : Int), .int .i64 (Q : Int), .bool B] 25)) := by rw [hw3]; exact heap_new _ _
    have hz2 : w.heap.size + 1 ≤ w2.heap.size := (Array.getElem?_eq_some_iff.1 HK2.out).1
    have hz3 : w3.heap.size = w2.heap.size + 1 := by rw [hw3]; simp
    rw [hem]
    unfold markV
    go_upto_region 4 with fail
    rw [← hw3]
    clear hw3 HB2 HK2
    have gg1 := mcell_on g1 HB3.out
    go_wp2_with fail
    refine (specReadMark_any s1 z1 w3).mono ?_
    rintro r w4 ⟨rfl, b4⟩
    have HB4 := hide (below_here HB3.out b4)
    have HK4 := hide (block_on HK3.out b4)
    have HM4 := hide (block_on HM3.out b4)
    have hz4 := b4.size
    clear b4 HB3 HK3 HM3 gg1
    obtain ⟨w5, hw5⟩ : ∃ w5, w5 = w4.alloc (.cells #[.int .i64 (E' : Int), .int .i64 (Q' : Int), .bool B'] 25) := ⟨_, rfl⟩
    have HB5 : Hid (Below w.heap.size w w5) := by rw [hw5]; exact HB4.out.alloc HB4.out.size _
    have HK5 : Hid (w5.heap[w.heap.size]? = some (.cells #[.int .i64 0, .int .i64 0, .bool false] 25)) := by rw [hw5]; exact heap_old HK4.out
    have HM5 : Hid (w5.heap[w2.heap.size]? = some (.cells #[.int .i64 (E : Int), .int .i64 (Q : Int), .bool B] 25)) := by rw [hw5]; exact heap_old HM4.out
    have HO5 : Hid (w5.heap[w4.heap.size]? = some (.cells #[.int .i64 (E' : Int), .int .i64 (Q' : Int), .bool B'] 25)) := by rw [hw5]; exact heap_new _ _
    rw [hem']
    unfold markV
    go_upto_region 5 with fail
    rw [← hw5]
    clear hw5 HB4 HK4 HM4
    obtain ⟨d0, d1, d2⟩ := mk_cells HK5.out
    have f0 := mk_frozen HK5.out 0
    have f1 := mk_frozen HK5.out 1
    have f2 := mk_frozen HK5.out 2
    obtain ⟨e0, e1, e2⟩ := mk_cells HM5.out
    obtain ⟨c0, c1, c2⟩ := mk_cells HO5.out
    have HF := fun (x y : Int) (z : Bool) => hide (mk_set HK5.out (.int .i64 x) (.int .i64 y) (.bool z))
    have HG := fun (x y : Int) (z : Bool) => hide (mk_below HB5.out (Nat.le_refl _) (.int .i64 x) (.int .i64 y) (.bool z))
    cases hr0 : readM s0 with
    | none =>
      rw [hr0] at hem
      cases hr1 : readM s1 with
      | none =>
        have HS : Hid (mstAt s0 s1 2 = none) := by show _ = _; unfold mstAt; rw [hr0, hr1]; rfl
        go_wp2_with fail
        refine bodyPost_ret (results_ct rfl rfl (run_loadVar_row _ _ _ _ _ _ _ (HF 0 0 false).out Tryd.underlying25 rfl (by kernel_rfl))) rfl ⟨?_, (HG 0 0 false).out⟩
        rw [HE.out, HS.out]; rfl
      | some m =>
        rw [hr1] at hem'
        have HS : Hid (mstAt s0 s1 2 = some (m, 1)) := by show _ = _; unfold mstAt; rw [hr0, hr1]; rfl
        have HM : Hid (m = (E', Q', B')) := mark_inj hem'
        go_wp2_with fail
        refine bodyPost_ret (results_ct rfl rfl (run_loadVar_row _ _ _ _ _ _ _ (HF (E' : Int) (Q' : Int) B').out Tryd.underlying25 rfl (by kernel_rfl))) rfl ⟨?_, (HG (E' : Int) (Q' : Int) B').out⟩
        rw [HE.out, HS.out, HM.out]; rfl
    | some m0 =>
      rw [hr0] at hem
      have HM0 : Hid (m0 = (E, Q, B)) := mark_inj hem
      cases hr1 : readM s1 with
      | none =>
        have HS : Hid (mstAt s0 s1 2 = some (m0, 0)) := by show _ = _; unfold mstAt; rw [hr0, hr1]; rfl
        go_wp2_with fail
        refine bodyPost_ret (results_ct rfl rfl (run_loadVar_row _ _ _ _ _ _ _ (HF (E : Int) (Q : Int) B).out Tryd.underlying25 rfl (by kernel_rfl))) rfl ⟨?_, (HG (E : Int) (Q : Int) B).out⟩
        rw [HE.out, HS.out, HM0.out]; rfl
      | some m =>
        rw [hr1] at hem'
        have HM : Hid (m = (E', Q', B')) := mark_inj hem'
        go_wp2_with fail
        refine (l13Less_any E Q E' Q' B B' w5).mono ?_
        cases hle : lessM (E, Q, B) (E', Q', B') with
        | false =>
          rintro r w6 ⟨rfl, b6⟩
          have HS : Hid (mstAt s0 s1 2 = some ((E, Q, B), 0)) := by show _ = _; unfold mstAt; rw [hr0, hr1, HM0.out, HM.out]; simp [newM, hle]
          have HB6 := hide (below_here HB5.out b6)
          have HK6 := hide (block_on HK5.out b6)
          have HM6 := hide (block_on HM5.out b6)
          clear b6 HF HG HB5 HK5 HM5 HO5 d0 d1 d2 e0 e1 e2 c0 c1 c2 f0 f1 f2
          obtain ⟨d0, d1, d2⟩ := mk_cells HK6.out
          have f0 := mk_frozen HK6.out 0
          have f1 := mk_frozen HK6.out 1
          have f2 := mk_frozen HK6.out 2
          obtain ⟨e0, e1, e2⟩ := mk_cells HM6.out
          have HF := hide (mk_set HK6.out (.int .i64 (E : Int)) (.int .i64 (Q : Int)) (.bool B))
          have HG := hide (mk_below HB6.out (Nat.le_refl _) (.int .i64 (E : Int)) (.int .i64 (Q : Int)) (.bool B))
          go_wp2_with fail
          refine bodyPost_ret (results_ct rfl rfl (run_loadVar_row _ _ _ _ _ _ _ HF.out Tryd.underlying25 rfl (by kernel_rfl))) rfl ⟨?_, HG.out⟩
          rw [HE.out, HS.out]; rfl
        | true =>
          rintro r w6 ⟨rfl, b6⟩
          have HS : Hid (mstAt s0 s1 2 = some ((E', Q', B'), 1)) := by show _ = _; unfold mstAt; rw [hr0, hr1, HM0.out, HM.out]; simp [newM, hle]
          have HB6 := hide (below_here HB5.out b6)
          have HK6 := hide (block_on HK5.out b6)
          have HO6 := hide (block_on HO5.out b6)
          clear b6 HF HG HB5 HK5 HM5 HO5 d0 d1 d2 e0 e1 e2 c0 c1 c2 f0 f1 f2
          obtain ⟨d0, d1, d2⟩ := mk_cells HK6.out
          have f0 := mk_frozen HK6.out 0
          have f1 := mk_frozen HK6.out 1
          have f2 := mk_frozen HK6.out 2
          obtain ⟨e0, e1, e2⟩ := mk_cells HO6.out
          have HF := hide (mk_set HK6.out (.int .i64 (E' : Int)) (.int .i64 (Q' : Int)) (.bool B'))
          have HG := hide (mk_below HB6.out (Nat.le_refl _) (.int .i64 (E' : Int)) (.int .i64 (Q' : Int)) (.bool B'))
          go_wp2_with fail
          refine bodyPost_ret (results_ct rfl rfl (run_loadVar_row _ _ _ _ _ _ _ HF.out Tryd.underlying25 rfl (by kernel_rfl))) rfl ⟨?_, HG.out⟩
          rw [HE.out, HS.out]; rfl
end Go.Proofs.YteooaljhdmmooaaDoor
end

