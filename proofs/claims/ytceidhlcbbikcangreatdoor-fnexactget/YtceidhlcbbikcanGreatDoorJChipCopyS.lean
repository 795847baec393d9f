/- Several texts in one: ChipCopyS, WearSpecA, WearSpecB, ChipOnly, WearLaw. -/
import Derived.Test.YtceidhlcbbikcanGreatDoorJChipGrow
import Derived.RegionTactic
import Derived.Deep.DeepCutAuto
import Derived.Test.YtceidhlcbbikcanGreatDoorJChipOkS
import Derived.Deep.QuietTactic
import Derived.BigQuiet
section
namespace Go.Proofs.YtceidhlcbbikcanGreatDoor
open Go.RowKit
set_option linter.unusedVariables false
set_option maxRecDepth 20000

theorem pg_ne {B : Nat} {w : World} {a : Option Addr} {c : Nat} {ts : List ByteArray} (h : PgOwn B w a c ts) {p : Nat} {cs : Array Value} {T : TypeId} {fr : Nat × Nat} (hp : w.heap[p]? = some (.cells cs T fr)) (hT : T ≠ 9) : oB a ≠ some p := by
  intro e
  obtain ⟨c', fz, h2⟩ := Go.Lib.ownsRow_kind h p (by rw [ownBlock_slice]; exact e)
  rw [hp] at h2
  simp only [Option.some.injEq, Obj.cells.injEq] at h2
  exact hT h2.2.1
theorem Pgs.keepT {B k p : Nat} {w w' : World} {qs : List Sq} {A : Nat → Option Addr} {C : Nat → Nat} (h : Pgs B w k qs A C) (hg : w.grownBy w' (some p)) {cs : Array Value} {T : TypeId} {fr : Nat × Nat} (hp : w.heap[p]? = some (.cells cs T fr)) (hT : T ≠ 9) : Pgs B w' k qs A C :=
  h.keep hg (fun i m hi hm e => pg_ne (h.own i hi) hp hT (by rw [hm]; exact e.symm))
theorem GrowSqs.mono {B B' n g : Nat} {w : World} {qs : List Sq} {A : Nat → Option Addr} {C : Nat → Nat} (h : GrowSqs B w n qs g A C) (hB : B' ≤ B) : GrowSqs B' w n qs g A C :=
  ⟨h.len, h.row, ⟨fun i hi => (h.pages.own i hi).mono hB, h.pages.apart⟩, Nat.le_trans hB h.atG, h.apartG⟩
/-- The cells of the first k Squares. -/
def rowL (A : Nat → Option Addr) (C : Nat → Nat) (qs : List Sq) (k : Nat) : List Value := (List.range (3 * k)).map (cellQ A C qs)
theorem rowL_length (A : Nat → Option Addr) (C : Nat → Nat) (qs : List Sq) (k : Nat) : (rowL A C qs k).length = k * 3 := by unfold rowL; simp; omega
theorem rowL_snoc (A : Nat → Option Addr) (C : Nat → Nat) (qs : List Sq) (k : Nat) (a' : Option Addr) (c' : Nat) :
    rowL A C qs k ++ [.slice a' (sqAt qs k).1.length c', .int .i64 (sqAt qs k).2.1, .bool (sqAt qs k).2.2] = rowL (upd A k a') (upd C k c') qs (k + 1) := by
  unfold rowL
  rw [show 3 * (k + 1) = 3 * k + 1 + 1 + 1 by omega, List.range_succ, List.range_succ, List.range_succ]
  simp only [List.map_append, List.map_cons, List.map_nil, List.append_assoc]
  rw [cellQ0, cellQ1, show 3 * k + 1 + 1 = 3 * k + 2 from rfl, cellQ2, upd_same, upd_same]
  have : (List.range (3 * k)).map (cellQ A C qs) = (List.range (3 * k)).map (cellQ (upd A k a') (upd C k c') qs) := by
    apply List.map_congr_left
    intro j hj
    rw [List.mem_range] at hj
    rw [cellQ_cell3, cellQ_cell3, upd_other _ _ (show j / 3 ≠ k by omega), upd_other _ _ (show j / 3 ≠ k by omega)]
  rw [this]
  rfl
/-- A row of Squares that was appended to, all of it. -/
theorem grow_of_row {B n : Nat} {w : World} {v : Value} {qs : List Sq} {A : Nat → Option Addr} {C : Nat → Nat} (hn : 0 < n) (hl : qs.length = n) (h : w.ownsRow B 60 3 v n (rowL A C qs n)) (hp : Pgs B w n qs A C) (hT : 60 ≠ 9) :
    ∃ g c, v = .slice (some ⟨g, 0, none⟩) n c ∧ GrowSqs B w n qs g A C := by
  obtain ⟨g, c, rfl⟩ := Go.Joins.ownsRow_form h hn
  refine ⟨g, c, rfl, hl, ?_, hp, (h.lt g rfl).1, fun i hi e => ?_⟩
  · have := (h.lt g rfl).2
    refine ⟨by omega, fun _ => ⟨g, 0, rfl, Nat.le_refl _, Nat.lt_succ_self _, fun j hj => ⟨?_, by rw [Nat.zero_add]; exact h.frozenAt j⟩⟩⟩
    rw [Nat.zero_add, h.cellAt j (by omega)]
    unfold rowL
    simp [hj]
  · obtain ⟨cs, fz, h2⟩ := Go.Lib.ownsRow_kind h g rfl
    exact pg_ne (hp.own i hi) h2 hT e
/-- 'append([]string{}, s...)': new Pages. -/
theorem append_pages {P : Program} (hinfo : (P.info? 9).map (fun i => (i.zero, i.size, i.bytes)) = some (some (.string ByteArray.empty), 1, 16)) {t : TypeId} (ht : P.underlying t = some (.slice 9)) {B g : Nat} {w : World} (ho : w.ownsRow B 9 1 (.slice (some ⟨g, 0, none⟩) 0 0) 0 []) (hB : B ≤ w.heap.size)
    {lo hi : Nat} {a : Option Addr} {c : Nat} {ts : List ByteArray} (hx : Texts lo hi w a ts.length ts) (hn : ts.length ≤ 1048576) :
    ∃ a' c' w', (Builtin.append_ #[t, t] t #[.slice (some ⟨g, 0, none⟩) 0 0, .slice a ts.length c]).run P w = .ok (.slice a' ts.length c') w' ∧ PgOwn B w' a' c' ts ∧ w.grownBy w' (some g) ∧ (∀ m, oB a' = some m → m = g ∨ m = w.heap.size) := by
  obtain ⟨i0, hi0, hz0, hz1, hz2⟩ := info_parts hinfo
  cases a with
  | none =>
    have h0 : ts.length = 0 := by
      rcases Nat.eq_zero_or_pos ts.length with h | h
      · exact h
      · obtain ⟨b, off, e, _⟩ := hx.2.2 h; cases e
    have hts : ts = [] := List.eq_nil_of_length_eq_zero h0
    subst hts
    refine ⟨some ⟨g, 0, none⟩, 0, w, ?_, ho, ⟨rfl, rfl, rfl, Nat.le_refl _, fun _ _ _ => rfl⟩, fun m hm => .inl (by have e : some g = some m := hm; simp at e; exact e.symm)⟩
    simp [Builtin.append_, run_underlying ht, sizeOf, typeInfo, hi0, Builtin.lenOf, Builtin.firstCells, storeCells]
  | some x =>
    have hnews : ∀ (j : Nat) u, (pgV ts)[j]? = some u → w.cell? (x.add j) = some u := by
      intro j u hj
      have hjl : j < ts.length := by
        rcases Nat.lt_or_ge j ts.length with h | h
        · exact h
        · rw [List.getElem?_eq_none (by unfold pgV; simpa using h)] at hj; simp at hj
      obtain ⟨b, off, e, _, _, hc⟩ := hx.2.2 (by omega)
      simp only [Option.some.injEq] at e
      subst e
      have hadd : (⟨b, off, none⟩ : Addr).add j = ⟨b, off + j, none⟩ := by unfold Addr.add; split <;> simp_all
      rw [hadd, hc j hjl, ← hj]
      unfold pgV cellT
      rw [List.getElem?_map, List.getD_eq_getElem?_getD, List.getElem?_eq_getElem hjl]
      rfl
    obtain ⟨v', w', h1, h2, h3, h4, h5⟩ := run_append_own_at (P := P) w B t t 9 i0 (.string ByteArray.empty) 1 16 ht hi0 hz0 hz1 hz2 rfl (by decide) _ 0 [] ho x ts.length c (pgV ts) (by unfold pgV; simp) hnews
      (fun u hu => by unfold pgV at hu; rw [List.mem_map] at hu; obtain ⟨s, _, rfl⟩ := hu; rfl) (by unfold maxLen; omega) (by omega) hB
    rw [Nat.zero_add, List.nil_append] at h2
    obtain ⟨a', c', rfl⟩ : ∃ a' c', v' = .slice a' ts.length c' := by
      rcases Go.Joins.ownsRow_forms h2 with ⟨rfl, h0⟩ | ⟨g', c', rfl⟩
      · exact ⟨none, 0, by rw [h0]⟩
      · exact ⟨_, c', rfl⟩
    refine ⟨a', c', w', h1, h2, h3, fun m hm => ?_⟩
    rw [ownBlock_slice, ownBlock_slice, hm] at h5
    rcases h5 with h5 | h5
    · exact .inl (by have e : some m = some g := h5; simp at e; exact e)
    · exact .inr (by simp at h5; exact h5)
theorem cell_three_new (w : World) (x y z : Value) (t : TypeId) : ∀ j u, [x, y, z][j]? = some u → (w.alloc (.cells #[x, y, z] t)).cell? ((⟨w.heap.size, 0, none⟩ : Addr).add j) = some u := by
  intro j u hj
  match j, hj with
  | 0, hj => simp at hj; subst hj; simp [Addr.add]
  | 1, hj => simp at hj; subst hj; simp [Addr.add]
  | 2, hj => simp at hj; subst hj; simp [Addr.add]
theorem three_one (a : Option Addr) (n c : Nat) (z : Int) (b : Bool) : ∀ u ∈ [Value.slice a n c, .int .i64 z, .bool b], u.oneCell' = true := by
  intro u hu
  simp only [List.mem_cons, List.not_mem_nil, or_false] at hu
  rcases hu with rfl | rfl | rfl <;> rfl
theorem chipOk_parts {z : Int} {qs : List Sq} (h : chipOk z qs = true) : 1 ≤ z ∧ z ≤ 8 ∧ 1 ≤ qs.length ∧ qs.length ≤ 12 ∧ ∀ q ∈ qs, sqOk z q = true := by
  unfold chipOk inB at h
  simp only [Bool.and_eq_true, decide_eq_true_eq, List.all_eq_true] at h
  exact ⟨h.1.1, h.1.2, h.2.1, h.2.2.1, h.2.2.2⟩
theorem sqOk_parts {z : Int} {q : Sq} (h : sqOk z q = true) : (q.1.length : Int) ≤ z ∧ 0 ≤ q.2.1 ∧ q.2.1 ≤ 1000000 ∧ ∀ s ∈ q.1, 1 ≤ s.size ∧ s.size ≤ 200 := by
  unfold sqOk inB at h
  simp only [Bool.and_eq_true, decide_eq_true_eq, List.all_eq_true] at h
  refine ⟨h.1, h.2.1.1, h.2.1.2, fun s hs => ?_⟩
  have := h.2.2 s hs
  unfold txOk at this
  simpa using this
theorem sqAt_mem {qs : List Sq} {k : Nat} (h : k < qs.length) : sqAt qs k ∈ qs := by
  unfold sqAt; rw [List.getD_eq_getElem?_getD, List.getElem?_eq_getElem h]; exact List.getElem_mem h
theorem chipOk_at {z : Int} {qs : List Sq} (h : chipOk z qs = true) {k : Nat} (hk : k < qs.length) : sqOk z (sqAt qs k) = true := (chipOk_parts h).2.2.2.2 _ (sqAt_mem hk)
theorem chipOk_fits {z : Int} {qs : List Sq} (h : chipOk z qs = true) : ∀ x ∈ qs, sqFits x := by
  intro x hx
  obtain ⟨_, h2, _, _, h5⟩ := chipOk_parts h
  obtain ⟨k1, k2, k3, k4⟩ := sqOk_parts (h5 x hx)
  refine ⟨fun s hs => ?_, ?_, ?_⟩
  · have := (k4 s hs).2; unfold maxLen; omega
  · unfold maxLen; omega
  · show (decide _ && decide _) = true; rw [Bool.and_eq_true, decide_eq_true_eq, decide_eq_true_eq]; refine ⟨Int.le_trans (by decide) k2, Int.le_trans k3 (by decide)⟩
theorem Tryz.infoStrC : (Tryz.prog.info? 9).map (fun i => (i.zero, i.size, i.bytes)) = some (some (.string ByteArray.empty), 1, 16) := by kernel_rfl

set_option maxHeartbeats 1600000 in
theorem l8Copy_any (z : Int) (a : Option Addr) (n cap : Nat) (qs : List Sq) (w : World) {lo hi : Nat} (h : Squares lo hi w a n qs) (hhi : hi ≤ w.heap.size) (hok : chipOk z qs = true) :
    Calls Tryz.prog 62 #[.agg #[.int .i64 z, .slice a n cap]] w fun e w' => ∃ g c A C, e = .returned (.agg #[.int .i64 z, .slice (some ⟨g, 0, none⟩) n c]) ∧ GrowSqs w.heap.size w' n qs g A C ∧ Below w.heap.size w w' := by
  obtain ⟨wA, hwA⟩ : ∃ wA, wA = ((w.alloc (.cells #[.int .i64 z, .slice a n cap] 32)).alloc (.cells #[.int .i64 0, .slice none 0 0] 32)).alloc (.cells #[.int .i64 z, .slice none 0 0] 32) := ⟨_, rfl⟩
  have hzA : wA.heap.size = w.heap.size + 1 + 1 + 1 := by rw [hwA]; simp
  have HBA : Hid (Below w.heap.size w wA) := by rw [hwA]; exact ((((Below.refl _ _).alloc (Nat.le_refl _) _).alloc (by simp) _).alloc (by simp; omega) _)
  have H0 : Hid (wA.heap[w.heap.size]? = some (.cells #[.int .i64 z, .slice a n cap] 32)) := by rw [hwA]; exact heap_old (heap_old (heap_new _ _))
  have H1 : Hid (wA.heap[w.heap.size + 1]? = some (.cells #[.int .i64 0, .slice none 0 0] 32)) := by rw [hwA]; exact heap_old (heap_at (by simp))
  have H2 : Hid (wA.heap[w.heap.size + 1 + 1]? = some (.cells #[.int .i64 z, .slice none 0 0] 32)) := by rw [hwA]; exact heap_at (by simp)
  obtain ⟨hz1, hz8, hn1, hn12, _⟩ := chipOk_parts hok
  have HL := hide h.1
  have hnl := h.1
  rw [hnl] at hn1 hn12
  have HSQ := hide h
  have HOK := hide hok
  clear h hok hnl
  obtain ⟨i0, hi0, hzz0, hzz1, hzz2⟩ := info_parts Tryz.infoSq
  go_enter Tryz.func62, Tryz.ntmps62
  go_wp2_with fail
  rw [← hwA]
  clear hwA
  go_loopw [4] (fun i wr => ∃ (k : Nat) (V : Value) (A : Nat → Option Addr) (C : Nat → Nat), k ≤ n ∧ i = .int .i64 (k : Int) ∧ wr.heap[w.heap.size]? = some (.cells #[.int .i64 z, .slice a n cap] 32) ∧ wr.heap[w.heap.size + 1]? = some (.cells #[.int .i64 0, .slice none 0 0] 32) ∧ wr.heap[w.heap.size + 1 + 1]? = some (.cells #[.int .i64 z, V] 32) ∧
    wr.ownsRow (w.heap.size + 3) 60 3 V k (rowL A C qs k) ∧ Pgs (w.heap.size + 3) wr k qs A C ∧ w.heap.size + 3 ≤ wr.heap.size ∧ Below w.heap.size w wr) (fun i _ => n - (intOf i).toNat)
  case atStart => exact ⟨0, .slice none 0 0, fun _ => none, fun _ => 0, Nat.zero_le _, rfl, H0.out, H1.out, H2.out, World.ownsRow_nil _ _ _ _, Pgs.nil _ _ _ _ _, by omega, HBA.out⟩
  case round =>
    obtain ⟨k, V, A, C, hk, rfl, hb0, hb1, hb2, hown, hpg, hsz, hbel⟩ := hrel
    clear H0 H1 H2 HBA
    obtain ⟨c0, c1⟩ := two_cells hb0
    have K0 := hide hb0
    have K1 := hide hb1
    have K2 := hide hb2
    have HOW := hide hown
    have HPG := hide hpg
    have HBB := hide hbel
    clear hb0 hb1 hb2 hown hpg
    by_cases hlt : k < n
    · have hql : k < qs.length := by rw [HL.out]; exact hlt
      obtain ⟨_, A0, C0, hx, ht⟩ := HSQ.out
      obtain ⟨b, off, rfl, _, hb, hc⟩ := hx.2 (by omega)
      obtain ⟨d0, d1, d2⟩ := sq_cells hc hbel (show b < w.heap.size by omega) hlt
      have HTX := hide ((ht k hlt).later hbel (by omega))
      have hl8 : (sqAt qs k).1.length ≤ 8 := by have := (sqOk_parts (chipOk_at HOK.out hql)).1; omega
      have HSN := hide (fun a' c' => rowL_snoc A C qs k a' c')
      have HPS := hide (fun (a' : Option Addr) (c' : Nat) (w' : World) (hb : Below wr.heap.size wr w') (ho : PgOwn (w.heap.size + 3) w' a' c' (sqAt qs k).1) (hf : ∀ m, oB a' = some m → wr.heap.size ≤ m) => HPG.out.snoc hb ho hf)
      clear hc hx ht hbel HPG
      generalize sqAt qs k = y at *
      obtain ⟨ts, zw, bd⟩ := y
      dsimp only at d0 d1 d2 hl8 HTX HSN HPS
      obtain ⟨wB, hwB⟩ : ∃ wB, wB = (wr.alloc (.cells #[.slice (A0 k) ts.length (C0 k), .int .i64 zw, .bool bd] 60)).alloc (.cells #[] 9) := ⟨_, rfl⟩
      have hzB : wB.heap.size = wr.heap.size + 1 + 1 := by rw [hwB]; simp
      have HB1 : Hid (Below wr.heap.size wr wB) := by rw [hwB]; exact (((Below.refl _ _).alloc (Nat.le_refl _) _).alloc (by simp) _)
      have HS0 : Hid (wB.heap[wr.heap.size]? = some (.cells #[.slice (A0 k) ts.length (C0 k), .int .i64 zw, .bool bd] 60)) := by rw [hwB]; exact heap_old (heap_new _ _)
      have hmade : wB.ownsRow (w.heap.size + 3) 9 1 (.slice (some ⟨wr.heap.size + 1, 0, none⟩) 0 0) 0 [] := by
        have := own_made0 (wr.alloc (.cells #[.slice (A0 k) ts.length (C0 k), .int .i64 zw, .bool bd] 60)) 9
        rw [← hwB] at this
        have e : (wr.alloc (.cells #[.slice (A0 k) ts.length (C0 k), .int .i64 zw, .bool bd] 60)).heap.size = wr.heap.size + 1 := by simp
        rw [e] at this
        exact this.mono (by omega)
      obtain ⟨a', c', w2, hap, hpo, hgr, hfr⟩ := append_pages (P := Tryz.prog) Tryz.infoStrC Tryz.underlying58 hmade (by omega) (c := C0 k) (HTX.out.later HB1.out HTX.out.2.1) (by omega)
      have hzB2 := hgr.size
      have HAP := hide hap
      have HB2 := hide (HB1.out.grown hgr (by omega) (fun m hm => by simp only [Option.some.injEq] at hm; omega))
      have HS2 : Hid (w2.heap[wr.heap.size]? = some (.cells #[.slice (A0 k) ts.length (C0 k), .int .i64 zw, .bool bd] 60)) := (hgr.block wr.heap.size (by omega) (fun e => by simp only [Option.some.injEq] at e; omega)).trans HS0.out
      have HP2 := hide (HPS.out a' c' w2 HB2.out hpo (fun m hm => by have := hfr m hm; omega))
      obtain ⟨s0, s1, s2⟩ := three_cells HS0.out
      obtain ⟨u0, u1, u2⟩ := three_cells HS2.out
      have fz := four_frozen HS2.out 0
      clear hap hpo hgr hfr HPS hmade
      rw [hwB] at s0 s1 s2
      go_upto_region 7 with (at_builtin; (first | rw [← hwB] | skip); refine wpList_append_eq rfl (.tmp 21) (.tmp 23) 58 rfl _ _ _ w2 rfl rfl HAP.out ?_)
      have HS3 := hide (set_block HS2.out 0 (.slice a' ts.length c') (by simp))
      have K03 := hide (set_other (block_on K0.out HB2.out) (show wr.heap.size ≠ w.heap.size by omega) (o := 0) (.slice a' ts.length c'))
      have K13 := hide (set_other (block_on K1.out HB2.out) (show wr.heap.size ≠ w.heap.size + 1 by omega) (o := 0) (.slice a' ts.length c'))
      have K23 := hide (set_other (block_on K2.out HB2.out) (show wr.heap.size ≠ w.heap.size + 1 + 1 by omega) (o := 0) (.slice a' ts.length c'))
      have HP3 := hide (HP2.out.keepT (grown_set w2 ⟨wr.heap.size, 0, none⟩ (.slice a' ts.length c')) HS2.out (by decide))
      have HO3 := hide (ownsRow_setCell_other (HOW.out.kept (grown_below HB2.out none) (by cases hv : V.ownBlock with | none => exact .inl rfl | some q => exact .inr (by simp))) (a := ⟨wr.heap.size, 0, none⟩) (by intro e; have := (HOW.out.lt _ e).2; simp at this) (.slice a' ts.length c'))
      have HB3 := hide (HB2.out.setCell (p := ⟨wr.heap.size, 0, none⟩) (Nat.le_refl _) (.slice a' ts.length c'))
      have hz3 : w2.heap.size = (w2.setCell ⟨wr.heap.size, 0, none⟩ (.slice a' ts.length c')).heap.size := (Go.Deep.nblk_setCell _ _ _).symm
      clear HS2 HP2 K0 K1 K2 HOW HB2 HS0 HB1 HAP s0 s1 s2 u0 u1 u2 fz hwB c0 c1
      generalize w2.setCell ⟨wr.heap.size, 0, none⟩ (.slice a' ts.length c') = w3 at *
      obtain ⟨s0, s1, s2⟩ := three_cells (show w3.heap[wr.heap.size]? = some (.cells #[.slice a' ts.length c', .int .i64 zw, .bool bd] 60) from HS3.out)
      obtain ⟨o0, o1⟩ := two_cells K23.out
      have HO4 := hide (HO3.out.alloc (.cells #[.slice a' ts.length c', .int .i64 zw, .bool bd] 60))
      have HB4 := hide ((Below.refl w3.heap.size w3).alloc (Nat.le_refl _) (.cells #[.slice a' ts.length c', .int .i64 zw, .bool bd] 60))
      have hz4 : (w3.alloc (.cells #[.slice a' ts.length c', .int .i64 zw, .bool bd] 60)).heap.size = w3.heap.size + 1 := by simp
      go_wp2_with (at_builtin; (refine wpList_append_own_at _ rfl (.tmp 27) (.tmp 29) 30 rfl (w.heap.size + 3) 60 i0 (.agg #[.slice none 0 0, .int .i64 0, .bool false]) 3 40 Tryz.underlying30 hi0 hzz0 hzz1 hzz2 rfl (by decide) V k (rowL A C qs k) rfl HO4.out ⟨w3.heap.size, 0, none⟩ 1 1 [.slice a' ts.length c', .int .i64 zw, .bool bd] rfl rfl (cell_three_new _ _ _ _ _) (three_one _ _ _ _ _) (by unfold maxLen; omega) (by omega) (by omega) ?_); intro v' w5 hown5 hgr5 _ _; obtain ⟨g', q', rfl⟩ := Go.Joins.ownsRow_form hown5 (Nat.succ_pos k); have HOW5 := hide hown5; have HGR5 := hide hgr5; have K25 : Hid (w5.heap[w.heap.size + 1 + 1]? = some (.cells #[.int .i64 z, V] 32)) := (hgr5.block _ (by omega) (fun e => by have := (HO4.out.lt _ e.symm).1; omega)).trans (block_on K23.out HB4.out); obtain ⟨o2, o3⟩ := two_cells K25.out; have f5 := four_frozen K25.out 1; clear hown5 hgr5)
      have hz5 := HGR5.out.size
      have hV : ∀ m, V.ownBlock = some m → w.heap.size + 3 ≤ m := fun m hm => (HO4.out.lt m hm).1
      obtain ⟨v', hv'⟩ : ∃ v', v' = Value.slice (some ⟨g', 0, none⟩) (k + 1) q' := ⟨_, rfl⟩
      rw [← hv'] at HOW5 ⊢
      refine ⟨⟨k + 1, v', upd A k a', upd C k c', by omega, by go_num, ?_, ?_, set_block K25.out 1 v' (by simp), ?_, ?_, ?_, ?_⟩, by simp [intOf]; omega⟩
      · exact set_other ((HGR5.out.block _ (by omega) (fun e => by have := hV _ e.symm; omega)).trans (block_on K03.out HB4.out)) (by omega) _
      · exact set_other ((HGR5.out.block _ (by omega) (fun e => by have := hV _ e.symm; omega)).trans (block_on K13.out HB4.out)) (by omega) _
      · rw [← HSN.out]; exact ownsRow_setCell_below HOW5.out (a := ⟨w.heap.size + 1 + 1, 1, none⟩) (by show w.heap.size + 1 + 1 < _; omega) v'
      · refine ((HP3.out.later HB4.out).keep HGR5.out (fun i m hi hm e => ?_)).keepT (grown_set w5 ⟨w.heap.size + 1 + 1, 1, none⟩ v') K25.out (by decide)
        obtain ⟨cs, fz, h2⟩ := Go.Lib.ownsRow_kind HO4.out m e
        exact pg_ne ((HP3.out.later HB4.out).own i hi) h2 (by decide) hm
      · rw [Go.Deep.nblk_setCell]; omega
      · exact ((below_here (HBB.out.trans (HB3.out.mono (by omega))) HB4.out).grown HGR5.out (by omega) (fun m hm => by have := hV m hm; omega)).setCell (p := ⟨w.heap.size + 1 + 1, 1, none⟩) (by show w.heap.size ≤ w.heap.size + 1 + 1; omega) v'
    · obtain rfl : k = n := by omega
      obtain ⟨g, c, rfl, hG⟩ := grow_of_row (by omega) HL.out HOW.out HPG.out (by decide)
      obtain ⟨o0, o1⟩ := two_cells K2.out
      obtain ⟨p0, p1⟩ := two_cells K1.out
      have f0 := four_frozen K1.out 0
      have f1 := four_frozen K1.out 1
      have HRS := hide (two_set K1.out (.int .i64 z) (.slice (some ⟨g, 0, none⟩) k c))
      have HAS := hide (two_aside (b := w.heap.size + 1) (Aside.refl (w.heap.size + 1) (w.heap.size + 2) wr) (by omega) (by omega) (.int .i64 z) (.slice (some ⟨g, 0, none⟩) k c))
      have HGG := hide ((hG.aside HAS.out (.inl (by omega))).mono (show w.heap.size ≤ w.heap.size + 3 by omega))
      have HBF := hide (HBB.out.trans (HAS.out.below (B := w.heap.size) (by omega) (by omega)))
      clear hG
      go_wp2_with fail
      refine bodyPost_ret (results_cell rfl rfl (run_loadVar_row _ _ _ _ _ _ _ HRS.out Tryz.underlying32 rfl (by kernel_rfl))) rfl ⟨g, c, A, C, rfl, HGG.out, HBF.out⟩
end Go.Proofs.YtceidhlcbbikcanGreatDoor
end

section
namespace Go.Proofs.YtceidhlcbbikcanGreatDoor
open Go.RowKit
set_option linter.unusedVariables false
set_option maxRecDepth 20000

set_option maxHeartbeats 800000 in
theorem l9Live_any (a : Option Addr) (n cap : Nat) (ps : List Pl) (s : Int) (w : World) {lo hi : Nat} (h : Places lo hi w a n ps) (hn : n ≤ 1048576) :
    Calls Tryz.prog 88 #[.slice a n cap, .int .i64 s] w fun e w' => e = .returned (.int .i64 (liveN ps s : Int)) ∧ w = w' := by
  obtain ⟨hl, hx⟩ := h
  have HL := hide hl
  have HX := hide hx
  have hsz := hx.1
  clear hl hx
  go_enter Tryz.func88, Tryz.ntmps88
  go_wp2_with fail
  go_loopw [5, 6] (fun t i wr => ∃ k : Nat, k ≤ n ∧ i = .int .i64 (k : Int) ∧ t = .int .i64 (liveN (ps.take k) s : Int) ∧ w = wr) (fun _ i _ => n - (intOf i).toNat)
  case atStart => exact ⟨0, Nat.zero_le _, rfl, by simp [liveN], rfl⟩
  case round =>
    obtain ⟨k, hk, rfl, rfl, rfl⟩ := hrel
    by_cases hlt : k < n
    · obtain ⟨b, off, rfl, _, hb, hc⟩ := HX.out.2 (by omega)
      obtain ⟨c0, c1⟩ := pl_cells hc (Below.refl w.heap.size w) (show b < w.heap.size by omega) hlt
      have HS := hide (liveN_step (show k < ps.length by rw [HL.out]; exact hlt) s)
      have hle := liveN_le (ps.take k) s
      have hle2 : liveN (ps.take k) s ≤ 1048576 := by rw [List.length_take] at hle; omega
      clear hc c1 hle
      generalize liveN (ps.take k) s = q at *
      by_cases he : (plAt ps k).1 = s
      · have g : ((plAt ps k).1 == s) = true := by simpa using he
        have HE : Hid (liveN (ps.take (k + 1)) s = q + 1) := by show _ = _; rw [HS.out, g]; rfl
        generalize (plAt ps k).1 = v at *
        subst he
        go_wp2_with fail
        exact ⟨⟨k + 1, by omega, by go_num, by rw [HE.out]; go_num, trivial⟩, by simp [intOf]; omega⟩
      · have g : ((plAt ps k).1 == s) = false := by simpa using he
        have HE : Hid (liveN (ps.take (k + 1)) s = q) := by show _ = _; rw [HS.out, g]; rfl
        generalize (plAt ps k).1 = v at *
        go_wp2_with fail
        exact ⟨⟨k + 1, by omega, by go_num, by rw [HE.out], trivial⟩, by simp [intOf]; omega⟩
    · have HE : Hid (liveN (ps.take k) s = liveN ps s) := by show _ = _; rw [List.take_of_length_le (by rw [HL.out]; omega)]
      generalize liveN (ps.take k) s = q at *
      go_wp2_with fail
      go_ret
      exact ⟨by rw [← HE.out]; rfl, rfl⟩

theorem freeK_bound {z : Int} {qs : List Sq} (h : chipOk z qs = true) : ∀ k, k ≤ qs.length → 0 ≤ freeK z qs k ∧ freeK z qs k ≤ 8 * (k : Int)
  | 0, _ => by simp [freeK]
  | k + 1, hk => by
    have h1 := freeK_bound h k (by omega)
    have h2 := sqOk_parts (chipOk_at h (show k < qs.length by omega))
    have h3 := (chipOk_parts h).2.1
    rw [freeK_step (by omega)]
    split
    · omega
    · omega

end Go.Proofs.YtceidhlcbbikcanGreatDoor
end

section
namespace Go.Proofs.YtceidhlcbbikcanGreatDoor
open Go.RowKit
set_option linter.unusedVariables false
set_option maxRecDepth 20000

end Go.Proofs.YtceidhlcbbikcanGreatDoor
end

section
namespace Go.Proofs.YtceidhlcbbikcanGreatDoor
open Go.RowKit
set_option linter.unusedVariables false

/-- Only the row g and rows of texts are written, none below B. -/
structure Only (B g : Nat) (w w' : World) : Prop where
  below : Below B w w'
  other : ∀ k cs T fr, k ≠ g → T ≠ 9 → w.heap[k]? = some (.cells cs T fr) → w'.heap[k]? = some (.cells cs T fr)
section
variable {B g : Nat} {w w1 w2 : World}
theorem Only.refl (B g : Nat) (w : World) : Only B g w w := ⟨Below.refl _ _, fun _ _ _ _ _ _ h => h⟩
theorem Only.trans (h : Only B g w w1) (k : Only B g w1 w2) : Only B g w w2 := ⟨h.below.trans k.below, fun q cs T fr h1 h2 h3 => k.other q cs T fr h1 h2 (h.other q cs T fr h1 h2 h3)⟩
theorem Only.on (h : Only B g w w1) (hb : Below w1.heap.size w1 w2) (hB : B ≤ w1.heap.size) : Only B g w w2 :=
  ⟨h.below.trans (hb.mono hB), fun q cs T fr h1 h2 h3 => block_on (h.other q cs T fr h1 h2 h3) hb⟩
theorem only_of_below (h : Below w.heap.size w w1) (hB : B ≤ w.heap.size) : Only B g w w1 := (Only.refl B g w).on h hB
theorem Only.grown (h : Only B g w w1) {a : Option Addr} {c : Nat} {ts : List ByteArray} (hp : PgOwn B w1 a c ts) (hg : w1.grownBy w2 (oB a)) (hB : B ≤ w1.heap.size) : Only B g w w2 :=
  ⟨h.below.grown hg hB (fun k hk => (pg_lt hp k hk).1), fun q cs T fr h1 h2 h3 => by
    have h4 := h.other q cs T fr h1 h2 h3
    rw [hg.block q (Array.getElem?_eq_some_iff.1 h4).1 (fun e => pg_ne hp h4 h2 e.symm)]
    exact h4⟩
theorem Only.set (h : Only B g w w1) (hg : B ≤ g) (j : Nat) (v : Value) : Only B g w (w1.setCell ⟨g, j, none⟩ v) :=
  ⟨h.below.setCell (p := ⟨g, j, none⟩) hg v, fun q cs T fr h1 h2 h3 => set_other (h.other q cs T fr h1 h2 h3) (Ne.symm h1) v⟩
theorem Only.setPg (h : Only B g w w1) {p c : Nat} {ts : List ByteArray} (hp : PgOwn B w1 (some ⟨p, 0, none⟩) c ts) (k : Nat) (v : Value) : Only B g w (w1.setCell ⟨p, k, none⟩ v) :=
  ⟨h.below.setCell (p := ⟨p, k, none⟩) (pg_lt hp p rfl).1 v, fun q cs T fr h1 h2 h3 => by
    have h4 := h.other q cs T fr h1 h2 h3
    exact set_other h4 (fun e => pg_ne hp h4 h2 (by rw [← e]; rfl)) v⟩
end

/-- A Square behind a Job that is taken. -/
def sqDo (q : Sq) (kd : Int) (tx : ByteArray) : Sq := if kd = 1 then (q.1 ++ [tx], q.2.1, q.2.2) else if kd = 2 then ([], q.2.1 + 1, q.2.2) else (q.1, q.2.1, true)
def doJ (z : Int) (qs : List Sq) (j : Jb) : List Sq := if canJ z qs j then qs.set j.2.1.toNat (sqDo (sqAt qs j.2.1.toNat) j.1 j.2.2) else qs
theorem canJ_parts {z : Int} {qs : List Sq} {j : Jb} (h : canJ z qs j = true) : ∃ i : Nat, j.2.1 = (i : Int) ∧ i < qs.length ∧ (sqAt qs i).2.2 = false ∧ canK z (sqAt qs i) j.1 j.2.2 = true := by
  unfold canJ inB at h
  simp only [Bool.and_eq_true, decide_eq_true_eq, Bool.not_eq_true'] at h
  obtain ⟨⟨h1, h2⟩, h3, h4⟩ := h
  exact ⟨j.2.1.toNat, by omega, by omega, h3, h4⟩
theorem canK_kind {z : Int} {q : Sq} {kd : Int} {tx : ByteArray} (h : canK z q kd tx = true) : (kd = 1 ∧ (q.1.length : Int) < z ∧ 1 ≤ tx.size ∧ tx.size ≤ 200) ∨ (kd = 2 ∧ q.2.1 < 1000000) ∨ kd = 3 := by
  unfold canK txOk at h
  by_cases h1 : kd = 1
  · rw [if_pos h1] at h
    simp only [Bool.and_eq_true, decide_eq_true_eq] at h
    exact .inl ⟨h1, h.1, h.2.1, h.2.2⟩
  · rw [if_neg h1] at h
    by_cases h2 : kd = 2
    · rw [if_pos h2] at h
      exact .inr (.inl ⟨h2, by simpa using h⟩)
    · rw [if_neg h2] at h
      exact .inr (.inr (by simpa using h))
theorem doJ_yes {z : Int} {qs : List Sq} {kd : Int} {i : Nat} {tx : ByteArray} (h : canJ z qs (kd, (i : Int), tx) = true) : doJ z qs (kd, (i : Int), tx) = qs.set i (sqDo (sqAt qs i) kd tx) := by
  unfold doJ; rw [if_pos h]; simp
theorem doJ_no {z : Int} {qs : List Sq} {j : Jb} (h : canJ z qs j = false) : doJ z qs j = qs := by
  unfold doJ; rw [if_neg (by rw [h]; simp)]
theorem doJ_length (z : Int) (qs : List Sq) (j : Jb) : (doJ z qs j).length = qs.length := by
  unfold doJ; split <;> simp
theorem set_ok {z : Int} {qs : List Sq} {i : Nat} {x : Sq} (h : chipOk z qs = true) (hx : sqOk z x = true) : chipOk z (qs.set i x) = true := by
  obtain ⟨h1, h2, h3, h4, h5⟩ := chipOk_parts h
  unfold chipOk inB
  simp only [Bool.and_eq_true, decide_eq_true_eq, List.all_eq_true, List.length_set]
  refine ⟨⟨h1, h2⟩, h3, h4, fun q hq => ?_⟩
  rcases List.mem_or_eq_of_mem_set hq with h | h
  · exact h5 q h
  · rw [h]; exact hx
theorem sqDo_ok {z : Int} {q : Sq} {kd : Int} {tx : ByteArray} (h : sqOk z q = true) (hk : canK z q kd tx = true) (hz : 1 ≤ z) : sqOk z (sqDo q kd tx) = true := by
  have h0 := h
  unfold sqOk inB at h ⊢
  simp only [Bool.and_eq_true, decide_eq_true_eq, List.all_eq_true] at h ⊢
  obtain ⟨h1, ⟨h2, h3⟩, h4⟩ := h
  rcases canK_kind hk with ⟨rfl, k1, k2, k3⟩ | ⟨rfl, k1⟩ | rfl
  · unfold sqDo
    rw [if_pos rfl]
    refine ⟨by simp; omega, ⟨h2, h3⟩, fun s hs => ?_⟩
    simp only [List.mem_append, List.mem_singleton] at hs
    rcases hs with hs | rfl
    · exact h4 s hs
    · unfold txOk; simp [k2, k3]
  · unfold sqDo
    rw [if_neg (by decide), if_pos rfl]
    exact ⟨by simp; omega, ⟨by show 0 ≤ q.2.1 + 1; omega, by show q.2.1 + 1 ≤ 1000000; omega⟩, fun s hs => absurd hs (by simp)⟩
  · unfold sqDo
    rw [if_neg (by decide), if_neg (by decide)]
    exact ⟨h1, ⟨h2, h3⟩, h4⟩
theorem doJ_ok {z : Int} {qs : List Sq} {j : Jb} (h : chipOk z qs = true) : chipOk z (doJ z qs j) = true := by
  cases hc : canJ z qs j with
  | false => rw [doJ_no hc]; exact h
  | true =>
    obtain ⟨i, hi, hl, _, hk⟩ := canJ_parts hc
    obtain ⟨kd, sq, tx⟩ := j
    dsimp only at hi hk
    subst hi
    rw [doJ_yes hc]
    exact set_ok h (sqDo_ok (chipOk_at h hl) hk (chipOk_parts h).1)
/-- A right Chip is small. -/
theorem total_small {ts : List ByteArray} {n : Nat} (hl : ts.length ≤ n) (h : ∀ s ∈ ts, s.size ≤ 200) : total ts ≤ n * 200 := by
  induction ts generalizing n with
  | nil => simp [total]
  | cons t ts ih =>
    cases n with
    | zero => simp at hl
    | succ n =>
      have h1 := ih (n := n) (by simpa using hl) (fun s hs => h s (by simp [hs]))
      have h2 := h t (by simp)
      unfold total at h1 ⊢
      simp only [List.map_cons, List.sum_cons]
      omega
theorem weight_small {qs : List Sq} {n : Nat} (hl : qs.length ≤ n) (h : ∀ q ∈ qs, q.1.length + total q.1 ≤ 1608) : weight qs ≤ n * 1608 := by
  induction qs generalizing n with
  | nil => simp [weight]
  | cons t ts ih =>
    cases n with
    | zero => simp at hl
    | succ n =>
      have h1 := ih (n := n) (by simpa using hl) (fun s hs => h s (by simp [hs]))
      have h2 := h t (by simp)
      unfold weight at h1 ⊢
      simp only [List.map_cons, List.sum_cons]
      omega
theorem chipOk_fit {z : Int} {qs : List Sq} (h : chipOk z qs = true) : qs.length + weight qs ≤ 1048576 := by
  obtain ⟨h1, h2, h3, h4, h5⟩ := chipOk_parts h
  have := weight_small (n := 12) h4 (fun q hq => by
    obtain ⟨k1, _, _, k4⟩ := sqOk_parts (h5 q hq)
    have k5 : q.1.length ≤ 8 := by omega
    have := total_small k5 (fun s hs => (k4 s hs).2)
    omega)
  omega
end Go.Proofs.YtceidhlcbbikcanGreatDoor
end

section
namespace Go.Proofs.YtceidhlcbbikcanGreatDoor
open Go.RowKit
set_option linter.unusedVariables false

theorem nodup_lt : ∀ (L : Nat) (l : List Nat), l.Nodup → (∀ x ∈ l, x < L) → l.length ≤ L
  | 0, l, _, h => by
    cases l with
    | nil => exact Nat.le_refl _
    | cons x xs => exact absurd (h x (by simp)) (by omega)
  | L + 1, l, hn, h => by
    by_cases hm : L ∈ l
    · have h1 := nodup_lt L (l.erase L) (hn.erase L) (fun x hx => by
        rw [hn.mem_erase_iff] at hx
        have := h x hx.2
        have := hx.1
        omega)
      rw [List.length_erase_of_mem hm] at h1
      omega
    · have h1 := nodup_lt L l hn (fun x hx => by
        have := h x hx
        by_cases e : x = L
        · subst e; exact absurd hx hm
        · omega)
      omega
/-- The pages of a map that lie in Square b, among the first k. -/
def pagesK (ps : List Pl) (b : Int) (k : Nat) : List Nat := ((ps.take k).filter (fun p => p.1 == b)).map (fun p => p.2.toNat)
theorem take_mem {ps : List Pl} {k : Nat} {x : Pl} (h : x ∈ ps.take k) : ∃ j, j < k ∧ j < ps.length ∧ plAt ps j = x := by
  obtain ⟨j, hj, e⟩ := List.getElem_of_mem h
  rw [List.length_take] at hj
  refine ⟨j, by omega, by omega, ?_⟩
  rw [List.getElem_take] at e
  unfold plAt
  rw [List.getD_eq_getElem?_getD, List.getElem?_eq_getElem (by omega)]
  exact e
theorem plOk_at {z : Int} {qs : List Sq} {ps : List Pl} (h : mapOk z qs ps = true) {i : Nat} (hi : i < ps.length) : plOk qs ps i = true := by
  unfold mapOk at h
  simp only [Bool.and_eq_true] at h
  exact List.all_eq_true.1 h.2.2.2 i (List.mem_range.2 hi)
theorem plOk_page {qs : List Sq} {ps : List Pl} {i b : Nat} (h : plOk qs ps i = true) (hb : (plAt ps i).1 = (b : Int)) : 0 ≤ (plAt ps i).2 ∧ (plAt ps i).2 < ((sqAt qs b).1.length : Int) ∧ ∀ k, k < i → plAt ps k ≠ plAt ps i := by
  unfold plOk at h
  rw [Bool.or_eq_true] at h
  rcases h with h | h
  · have e : plAt ps i = (-1, 0) := by simpa using h
    rw [e] at hb
    have : (-1 : Int) = (b : Int) := hb
    omega
  · rw [Bool.and_eq_true] at h
    obtain ⟨h1, h2⟩ := h
    unfold plThere inB at h1
    simp only [Bool.and_eq_true, decide_eq_true_eq] at h1
    rw [hb, Int.toNat_natCast] at h1
    refine ⟨h1.2.1, by omega, fun k hk e => ?_⟩
    have := List.all_eq_true.1 h2 k (List.mem_range.2 hk)
    simp [e] at this
theorem pagesK_ok {z : Int} {qs : List Sq} {ps : List Pl} (h : mapOk z qs ps = true) (b : Nat) : ∀ k, k ≤ ps.length → (pagesK ps (b : Int) k).Nodup ∧ ∀ x ∈ pagesK ps (b : Int) k, x < (sqAt qs b).1.length
  | 0, _ => by unfold pagesK; simp
  | k + 1, hk => by
    have ih := pagesK_ok h b k (by omega)
    have hkl : k < ps.length := by omega
    have hok := plOk_at h hkl
    have hst : pagesK ps (b : Int) (k + 1) = pagesK ps (b : Int) k ++ (if (plAt ps k).1 == (b : Int) then [(plAt ps k).2.toNat] else []) := by
      unfold pagesK plAt
      rw [List.take_succ_eq_append_getElem hkl, List.filter_append, List.map_append, List.getD_eq_getElem?_getD, List.getElem?_eq_getElem hkl]
      simp only [Option.getD_some, List.filter_cons, List.filter_nil]
      split <;> simp
    by_cases hb : (plAt ps k).1 = (b : Int)
    · have hpg := plOk_page hok hb
      have hbb : ((plAt ps k).1 == (b : Int)) = true := by simpa using hb
      rw [hst, hbb, if_pos rfl]
      refine ⟨?_, fun x hx => ?_⟩
      · rw [List.nodup_append]
        refine ⟨ih.1, List.pairwise_singleton _ _, fun x hx y hy => ?_⟩
        rw [List.mem_singleton] at hy
        subst hy
        intro e
        unfold pagesK at hx
        rw [List.mem_map] at hx
        obtain ⟨u, hu, hu2⟩ := hx
        rw [List.mem_filter] at hu
        obtain ⟨j, hj1, hj2, hj3⟩ := take_mem hu.1
        have hu1 : u.1 = (b : Int) := by simpa using hu.2
        have hpj := plOk_page (plOk_at h hj2) (show (plAt ps j).1 = (b : Int) by rw [hj3]; exact hu1)
        rw [hj3] at hpj
        refine hpg.2.2 j hj1 ?_
        rw [hj3]
        have e2 : u.2 = (plAt ps k).2 := by omega
        have e1 : u.1 = (plAt ps k).1 := by rw [hu1, hb]
        exact Prod.ext e1 e2
      · rw [List.mem_append, List.mem_singleton] at hx
        rcases hx with hx | rfl
        · exact ih.2 x hx
        · omega
    · have hbb : ((plAt ps k).1 == (b : Int)) = false := by simpa using hb
      rw [hst, hbb]
      simpa using ih
/-- No more are Live in a Square than it has pages. -/
theorem live_le {z : Int} {qs : List Sq} {ps : List Pl} (h : mapOk z qs ps = true) (b : Nat) : liveN ps (b : Int) ≤ (sqAt qs b).1.length := by
  have h1 := pagesK_ok h b ps.length (Nat.le_refl _)
  have h2 := nodup_lt _ _ h1.1 h1.2
  unfold pagesK at h2
  rw [List.take_of_length_le (Nat.le_refl _), List.length_map] at h2
  exact h2
theorem leastK_le {z : Int} {qs : List Sq} (h : chipOk z qs = true) : ∀ k, k ≤ qs.length → ∀ j, j < k → (sqAt qs j).2.2 = false → 0 ≤ leastK qs k ∧ leastK qs k ≤ (sqAt qs j).2.1
  | 0, _, j, hj, _ => absurd hj (by omega)
  | k + 1, hk, j, hj, hb => by
    have hw := (sqOk_parts (chipOk_at h (show k < qs.length by omega))).2.1
    unfold leastK
    by_cases e : j = k
    · subst e
      rw [hb]
      simp only [Bool.false_eq_true, if_false]
      split
      · omega
      · omega
    · have ih := leastK_le h k (by omega) j (by omega) hb
      split
      · exact ih
      · split
        · omega
        · exact ih
theorem mostK_ge {qs : List Sq} : ∀ k, ∀ j, j < k → (sqAt qs j).2.2 = false → (sqAt qs j).2.1 ≤ mostK qs k
  | 0, j, hj, _ => absurd hj (by omega)
  | k + 1, j, hj, hb => by
    unfold mostK
    by_cases e : j = k
    · subst e
      rw [hb]
      simp only [Bool.false_eq_true, if_false]
      split
      · omega
      · omega
    · have ih := mostK_ge k j (by omega) hb
      split
      · exact ih
      · split
        · exact ih
        · omega
/-- What FnWear asks of Empty's list. -/
theorem empty_at {z : Int} {qs : List Sq} {i : Nat} (hi : i < (emptyL z qs).length) : ∃ e : Nat, (emptyL z qs).getD i 0 = (e : Int) ∧ e < qs.length ∧ (sqAt qs e).1.length = 0 ∧ (sqAt qs e).2.2 = false ∧ (worn z qs).1 ≤ (sqAt qs e).2.1 ∧ (sqAt qs e).2.1 ≤ (worn z qs).2 ∧
    ∀ j, i = j + 1 → ∃ d : Nat, (emptyL z qs).getD j 0 = (d : Int) ∧ d < qs.length ∧ ((sqAt qs d).2.1 < (sqAt qs e).2.1 ∨ (sqAt qs d).2.1 = (sqAt qs e).2.1 ∧ (d : Int) < (e : Int)) := by
  cases hok : chipOk z qs with
  | false =>
    unfold emptyL at hi
    rw [hok] at hi
    simp at hi
  | true =>
    have hE : emptyL z qs = (emptyK qs qs.length).map (fun (i : Nat) => (i : Int)) := by unfold emptyL; rw [hok]; rfl
    have hW : worn z qs = (leastK qs qs.length, mostK qs qs.length) := by unfold worn; rw [hok]; rfl
    rw [hE, List.length_map] at hi
    have hat : ∀ k, (hk : k < (emptyK qs qs.length).length) → (emptyL z qs).getD k 0 = (((emptyK qs qs.length)[k] : Nat) : Int) := fun k hk => by
      rw [hE, List.getD_eq_getElem?_getD, List.getElem?_map, List.getElem?_eq_getElem hk]; rfl
    have hmem := (emptyK_mem qs qs.length ((emptyK qs qs.length)[i])).1 (List.getElem_mem hi)
    have he := hmem.2
    unfold isEmpty at he
    simp only [Bool.and_eq_true, Bool.not_eq_true', beq_iff_eq] at he
    have hl := leastK_le hok qs.length (Nat.le_refl _) _ hmem.1 he.2
    have hm := mostK_ge qs.length _ hmem.1 he.2
    refine ⟨(emptyK qs qs.length)[i], hat i hi, hmem.1, he.1, he.2, by rw [hW]; exact hl.2, by rw [hW]; exact hm, fun j hj => ?_⟩
    have hji : j < (emptyK qs qs.length).length := by omega
    have hmj := (emptyK_mem qs qs.length ((emptyK qs qs.length)[j])).1 (List.getElem_mem hji)
    have hs := List.pairwise_iff_getElem.1 (emptyK_sorted qs qs.length) j i hji hi (by omega)
    refine ⟨(emptyK qs qs.length)[j], hat j hji, hmj.1, ?_⟩
    unfold aheadW at hs
    omega
/-- What FnWear asks of the victim. -/
theorem victim_at {z : Int} {qs : List Sq} {ps : List Pl} {op : Int} (h : 0 ≤ victim z qs ps op) : ∃ b : Nat, victim z qs ps op = (b : Int) ∧ mapOk z qs ps = true ∧ b < qs.length ∧ (b : Int) ≠ op ∧ (liveN ps (b : Int) : Int) < z ∧ 0 < (sqAt qs b).1.length ∧ (sqAt qs b).2.2 = false ∧ ∀ i, i < qs.length → (i : Int) ≠ op → 0 < (sqAt qs i).1.length → (sqAt qs i).2.2 = false → liveN ps (b : Int) ≤ liveN ps (i : Int) := by
  cases hok : mapOk z qs ps with
  | false => unfold victim at h; rw [hok] at h; simp at h
  | true =>
    have hv : victim z qs ps op = victimV z qs ps op := by unfold victim; rw [hok]; rfl
    rw [hv] at h ⊢
    unfold victimV at h ⊢
    cases hb : bestK qs ps op qs.length with
    | none => rw [hb] at h; simp at h
    | some b =>
      rw [hb] at h
      dsimp only at h ⊢
      have hs := bestK_some hb
      have hlt := bestK_lt hb
      by_cases hz : (liveN ps (b : Int) : Int) = z
      · rw [if_pos hz] at h; omega
      · rw [if_neg hz]
        have hm := hs.1
        unfold mayV at hm
        simp only [Bool.and_eq_true, Bool.not_eq_true', beq_eq_false_iff_ne, ne_eq] at hm
        have hle := live_le hok b
        have hsz := (sqOk_parts (chipOk_at (mapOk_chip hok) hlt)).1
        refine ⟨b, rfl, rfl, hlt, hm.2.2, by omega, by omega, hm.2.1, fun i hi h1 h2 h3 => ?_⟩
        have hmi : mayV qs op i = true := by
          unfold mayV
          have g1 : ((sqAt qs i).1.length == 0) = false := by simp; intro e; rw [e] at h2; simp at h2
          have g2 : ((i : Int) == op) = false := by simpa using h1
          rw [g1, g2, h3]; rfl
        have hn := hs.2 i hi hmi
        unfold lessR rkV9 at hn
        dsimp only at hn
        omega
end Go.Proofs.YtceidhlcbbikcanGreatDoor
end

