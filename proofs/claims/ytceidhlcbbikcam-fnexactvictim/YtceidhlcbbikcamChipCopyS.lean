/- The model's l8Copy: a Chip in new memory, its rows free to grow. -/
import Derived.Test.YtceidhlcbbikcamChipGrow
import Derived.RegionTactic
import Derived.Deep.DeepCutAuto
namespace Go.Proofs.Ytceidhlcbbikcam
open Go.RowKit
set_option linter.unusedVariables false
set_option maxRecDepth 20000

theorem pg_ne {B : Nat} {w : World} {a : Option Addr} {c : Nat} {ts : List ByteArray} (h : PgOwn B w a c ts) {p : Nat} {cs : Array Value} {T : TypeId} {fr : Nat × Nat} (hp : w.heap[p]? = some (.cells cs T fr)) (hT : T ≠ 9) : oB a ≠ some p := by
  intro e
  obtain ⟨c', fz, h2⟩ := Go.Lib.ownsRow_kind h p (by rw [ownBlock_slice]; exact e)
  rw [hp] at h2
  simp only [Option.some.injEq, Obj.cells.injEq] at h2
  exact hT h2.2.1
theorem Pgs.keepT {B k p : Nat} {w w' : World} {qs : List Sq} {A : Nat → Option Addr} {C : Nat → Nat} (h : Pgs B w k qs A C) (hg : w.grownBy w' (some p)) {cs : Array Value} {T : TypeId} {fr : Nat × Nat} (hp : w.heap[p]? = some (.cells cs T fr)) (hT : T ≠ 9) : Pgs B w' k qs A C :=
  h.keep hg (fun i m hi hm e => pg_ne (h.own i hi) hp hT (by rw [hm]; exact e.symm))
theorem GrowSqs.mono {B B' n g : Nat} {w : World} {qs : List Sq} {A : Nat → Option Addr} {C : Nat → Nat} (h : GrowSqs B w n qs g A C) (hB : B' ≤ B) : GrowSqs B' w n qs g A C :=
  ⟨h.len, h.row, ⟨fun i hi => (h.pages.own i hi).mono hB, h.pages.apart⟩, Nat.le_trans hB h.atG, h.apartG⟩
/-- The cells of the first k Squares. -/
def rowL (A : Nat → Option Addr) (C : Nat → Nat) (qs : List Sq) (k : Nat) : List Value := (List.range (3 * k)).map (cellQ A C qs)
theorem rowL_length (A : Nat → Option Addr) (C : Nat → Nat) (qs : List Sq) (k : Nat) : (rowL A C qs k).length = k * 3 := by unfold rowL; simp; omega
theorem rowL_snoc (A : Nat → Option Addr) (C : Nat → Nat) (qs : List Sq) (k : Nat) (a' : Option Addr) (c' : Nat) :
    rowL A C qs k ++ [.slice a' (sqAt qs k).1.length c', .int .i64 (sqAt qs k).2.1, .bool (sqAt qs k).2.2] = rowL (upd A k a') (upd C k c') qs (k + 1) := by
  unfold rowL
  rw [show 3 * (k + 1) = 3 * k + 1 + 1 + 1 by omega, List.range_succ, List.range_succ, List.range_succ]
  simp only [List.map_append, List.map_cons, List.map_nil, List.append_assoc]
  rw [cellQ0, cellQ1, show 3 * k + 1 + 1 = 3 * k + 2 from rfl, cellQ2, upd_same, upd_same]
  have : (List.range (3 * k)).map (cellQ A C qs) = (List.range (3 * k)).map (cellQ (upd A k a') (upd C k c') qs) := by
    apply List.map_congr_left
    intro j hj
    rw [List.mem_range] at hj
    rw [cellQ_cell3, cellQ_cell3, upd_other _ _ (show j / 3 ≠ k by omega), upd_other _ _ (show j / 3 ≠ k by omega)]
  rw [this]
  rfl
/-- A row of Squares that was appended to, all of it. -/
theorem grow_of_row {B n : Nat} {w : World} {v : Value} {qs : List Sq} {A : Nat → Option Addr} {C : Nat → Nat} (hn : 0 < n) (hl : qs.length = n) (h : w.ownsRow B 68 3 v n (rowL A C qs n)) (hp : Pgs B w n qs A C) (hT : 68 ≠ 9) :
    ∃ g c, v = .slice (some ⟨g, 0, none⟩) n c ∧ GrowSqs B w n qs g A C := by
  obtain ⟨g, c, rfl⟩ := Go.Joins.ownsRow_form h hn
  refine ⟨g, c, rfl, hl, ?_, hp, (h.lt g rfl).1, fun i hi e => ?_⟩
  · have := (h.lt g rfl).2
    refine ⟨by omega, fun _ => ⟨g, 0, rfl, Nat.le_refl _, Nat.lt_succ_self _, fun j hj => ⟨?_, by rw [Nat.zero_add]; exact h.frozenAt j⟩⟩⟩
    rw [Nat.zero_add, h.cellAt j (by omega)]
    unfold rowL
    simp [hj]
  · obtain ⟨cs, fz, h2⟩ := Go.Lib.ownsRow_kind h g rfl
    exact pg_ne (hp.own i hi) h2 hT e
/-- 'append([]string{}, s...)': new Pages. -/
theorem append_pages {P : Program} (hinfo : (P.info? 9).map (fun i => (i.zero, i.size, i.bytes)) = some (some (.string ByteArray.empty), 1, 16)) {t : TypeId} (ht : P.underlying t = some (.slice 9)) {B g : Nat} {w : World} (ho : w.ownsRow B 9 1 (.slice (some ⟨g, 0, none⟩) 0 0) 0 []) (hB : B ≤ w.heap.size)
    {lo hi : Nat} {a : Option Addr} {c : Nat} {ts : List ByteArray} (hx : Texts lo hi w a ts.length ts) (hn : ts.length ≤ 1048576) :
    ∃ a' c' w', (Builtin.append_ #[t, t] t #[.slice (some ⟨g, 0, none⟩) 0 0, .slice a ts.length c]).run P w = .ok (.slice a' ts.length c') w' ∧ PgOwn B w' a' c' ts ∧ w.grownBy w' (some g) ∧ (∀ m, oB a' = some m → m = g ∨ m = w.heap.size) := by
  obtain ⟨i0, hi0, hz0, hz1, hz2⟩ := info_parts hinfo
  cases a with
  | none =>
    have h0 : ts.length = 0 := by
      rcases Nat.eq_zero_or_pos ts.length with h | h
      · exact h
      · obtain ⟨b, off, e, _⟩ := hx.2.2 h; cases e
    have hts : ts = [] := List.eq_nil_of_length_eq_zero h0
    subst hts
    refine ⟨some ⟨g, 0, none⟩, 0, w, ?_, ho, ⟨rfl, rfl, rfl, Nat.le_refl _, fun _ _ _ => rfl⟩, fun m hm => .inl (by have e : some g = some m := hm; simp at e; exact e.symm)⟩
    simp [Builtin.append_, run_underlying ht, sizeOf, typeInfo, hi0, Builtin.lenOf, Builtin.firstCells, storeCells]
  | some x =>
    have hnews : ∀ (j : Nat) u, (pgV ts)[j]? = some u → w.cell? (x.add j) = some u := by
      intro j u hj
      have hjl : j < ts.length := by
        rcases Nat.lt_or_ge j ts.length with h | h
        · exact h
        · rw [List.getElem?_eq_none (by unfold pgV; simpa using h)] at hj; simp at hj
      obtain ⟨b, off, e, _, _, hc⟩ := hx.2.2 (by omega)
      simp only [Option.some.injEq] at e
      subst e
      have hadd : (⟨b, off, none⟩ : Addr).add j = ⟨b, off + j, none⟩ := by unfold Addr.add; split <;> simp_all
      rw [hadd, hc j hjl, ← hj]
      unfold pgV cellT
      rw [List.getElem?_map, List.getD_eq_getElem?_getD, List.getElem?_eq_getElem hjl]
      rfl
    obtain ⟨v', w', h1, h2, h3, h4, h5⟩ := run_append_own_at (P := P) w B t t 9 i0 (.string ByteArray.empty) 1 16 ht hi0 hz0 hz1 hz2 rfl (by decide) _ 0 [] ho x ts.length c (pgV ts) (by unfold pgV; simp) hnews
      (fun u hu => by unfold pgV at hu; rw [List.mem_map] at hu; obtain ⟨s, _, rfl⟩ := hu; rfl) (by unfold maxLen; omega) (by omega) hB
    rw [Nat.zero_add, List.nil_append] at h2
    obtain ⟨a', c', rfl⟩ : ∃ a' c', v' = .slice a' ts.length c' := by
      rcases Go.Joins.ownsRow_forms h2 with ⟨rfl, h0⟩ | ⟨g', c', rfl⟩
      · exact ⟨none, 0, by rw [h0]⟩
      · exact ⟨_, c', rfl⟩
    refine ⟨a', c', w', h1, h2, h3, fun m hm => ?_⟩
    rw [ownBlock_slice, ownBlock_slice, hm] at h5
    rcases h5 with h5 | h5
    · exact .inl (by have e : some m = some g := h5; simp at e; exact e)
    · exact .inr (by simp at h5; exact h5)
theorem cell_three_new (w : World) (x y z : Value) (t : TypeId) : ∀ j u, [x, y, z][j]? = some u → (w.alloc (.cells #[x, y, z] t)).cell? ((⟨w.heap.size, 0, none⟩ : Addr).add j) = some u := by
  intro j u hj
  match j, hj with
  | 0, hj => simp at hj; subst hj; simp [Addr.add]
  | 1, hj => simp at hj; subst hj; simp [Addr.add]
  | 2, hj => simp at hj; subst hj; simp [Addr.add]
theorem three_one (a : Option Addr) (n c : Nat) (z : Int) (b : Bool) : ∀ u ∈ [Value.slice a n c, .int .i64 z, .bool b], u.oneCell' = true := by
  intro u hu
  simp only [List.mem_cons, List.not_mem_nil, or_false] at hu
  rcases hu with rfl | rfl | rfl <;> rfl
theorem chipOk_parts {z : Int} {qs : List Sq} (h : chipOk z qs = true) : 1 ≤ z ∧ z ≤ 8 ∧ 1 ≤ qs.length ∧ qs.length ≤ 12 ∧ ∀ q ∈ qs, sqOk z q = true := by
  unfold chipOk inB at h
  simp only [Bool.and_eq_true, decide_eq_true_eq, List.all_eq_true] at h
  exact ⟨h.1.1, h.1.2, h.2.1, h.2.2.1, h.2.2.2⟩
theorem sqOk_parts {z : Int} {q : Sq} (h : sqOk z q = true) : (q.1.length : Int) ≤ z ∧ 0 ≤ q.2.1 ∧ q.2.1 ≤ 1000000 ∧ ∀ s ∈ q.1, 1 ≤ s.size ∧ s.size ≤ 200 := by
  unfold sqOk inB at h
  simp only [Bool.and_eq_true, decide_eq_true_eq, List.all_eq_true] at h
  refine ⟨h.1, h.2.1.1, h.2.1.2, fun s hs => ?_⟩
  have := h.2.2 s hs
  unfold txOk at this
  simpa using this
theorem sqAt_mem {qs : List Sq} {k : Nat} (h : k < qs.length) : sqAt qs k ∈ qs := by
  unfold sqAt; rw [List.getD_eq_getElem?_getD, List.getElem?_eq_getElem h]; exact List.getElem_mem h
theorem chipOk_at {z : Int} {qs : List Sq} (h : chipOk z qs = true) {k : Nat} (hk : k < qs.length) : sqOk z (sqAt qs k) = true := (chipOk_parts h).2.2.2.2 _ (sqAt_mem hk)
theorem chipOk_fits {z : Int} {qs : List Sq} (h : chipOk z qs = true) : ∀ x ∈ qs, sqFits x := by
  intro x hx
  obtain ⟨_, h2, _, _, h5⟩ := chipOk_parts h
  obtain ⟨k1, k2, k3, k4⟩ := sqOk_parts (h5 x hx)
  refine ⟨fun s hs => ?_, ?_, ?_⟩
  · have := (k4 s hs).2; unfold maxLen; omega
  · unfold maxLen; omega
  · show (decide _ && decide _) = true; rw [Bool.and_eq_true, decide_eq_true_eq, decide_eq_true_eq]; refine ⟨Int.le_trans (by decide) k2, Int.le_trans k3 (by decide)⟩
theorem Try.infoStrC : (Try.prog.info? 9).map (fun i => (i.zero, i.size, i.bytes)) = some (some (.string ByteArray.empty), 1, 16) := by kernel_rfl

set_option maxHeartbeats 1600000 in
theorem l8Copy_any (z : Int) (a : Option Addr) (n cap : Nat) (qs : List Sq) (w : World) {lo hi : Nat} (h : Squares lo hi w a n qs) (hhi : hi ≤ w.heap.size) (hok : chipOk z qs = true) :
    Calls Try.prog 36 #[.agg #[.int .i64 z, .slice a n cap]] w fun e w' => ∃ g c A C, e = .returned (.agg #[.int .i64 z, .slice (some ⟨g, 0, none⟩) n c]) ∧ GrowSqs w.heap.size w' n qs g A C ∧ Below w.heap.size w w' := by
  obtain ⟨wA, hwA⟩ : ∃ wA, wA = ((w.alloc (.cells #[.int .i64 z, .slice a n cap] 31)).alloc (.cells #[.int .i64 0, .slice none 0 0] 31)).alloc (.cells #[.int .i64 z, .slice none 0 0] 31) := ⟨_, rfl⟩
  have hzA : wA.heap.size = w.heap.size + 1 + 1 + 1 := by rw [hwA]; simp
  have HBA : Hid (Below w.heap.size w wA) := by rw [hwA]; exact ((((Below.refl _ _).alloc (Nat.le_refl _) _).alloc (by simp) _).alloc (by simp; omega) _)
  have H0 : Hid (wA.heap[w.heap.size]? = some (.cells #[.int .i64 z, .slice a n cap] 31)) := by rw [hwA]; exact heap_old (heap_old (heap_new _ _))
  have H1 : Hid (wA.heap[w.heap.size + 1]? = some (.cells #[.int .i64 0, .slice none 0 0] 31)) := by rw [hwA]; exact heap_old (heap_at (by simp))
  have H2 : Hid (wA.heap[w.heap.size + 1 + 1]? = some (.cells #[.int .i64 z, .slice none 0 0] 31)) := by rw [hwA]; exact heap_at (by simp)
  obtain ⟨hz1, hz8, hn1, hn12, _⟩ := chipOk_parts hok
  have HL := hide h.1
  have hnl := h.1
  rw [hnl] at hn1 hn12
  have HSQ := hide h
  have HOK := hide hok
  clear h hok hnl
  obtain ⟨i0, hi0, hzz0, hzz1, hzz2⟩ := info_parts Try.infoSq
  go_enter Try.func36, Try.ntmps36
  go_wp2_with fail
  rw [← hwA]
  clear hwA
  go_loopw [4] (fun i wr => ∃ (k : Nat) (V : Value) (A : Nat → Option Addr) (C : Nat → Nat), k ≤ n ∧ i = .int .i64 (k : Int) ∧ wr.heap[w.heap.size]? = some (.cells #[.int .i64 z, .slice a n cap] 31) ∧ wr.heap[w.heap.size + 1]? = some (.cells #[.int .i64 0, .slice none 0 0] 31) ∧ wr.heap[w.heap.size + 1 + 1]? = some (.cells #[.int .i64 z, V] 31) ∧
    wr.ownsRow (w.heap.size + 3) 68 3 V k (rowL A C qs k) ∧ Pgs (w.heap.size + 3) wr k qs A C ∧ w.heap.size + 3 ≤ wr.heap.size ∧ Below w.heap.size w wr) (fun i _ => n - (intOf i).toNat)
  case atStart => exact ⟨0, .slice none 0 0, fun _ => none, fun _ => 0, Nat.zero_le _, rfl, H0.out, H1.out, H2.out, World.ownsRow_nil _ _ _ _, Pgs.nil _ _ _ _ _, by omega, HBA.out⟩
  case round =>
    obtain ⟨k, V, A, C, hk, rfl, hb0, hb1, hb2, hown, hpg, hsz, hbel⟩ := hrel
    clear H0 H1 H2 HBA
    obtain ⟨c0, c1⟩ := two_cells hb0
    have K0 := hide hb0
    have K1 := hide hb1
    have K2 := hide hb2
    have HOW := hide hown
    have HPG := hide hpg
    have HBB := hide hbel
    clear hb0 hb1 hb2 hown hpg
    by_cases hlt : k < n
    · have hql : k < qs.length := by rw [HL.out]; exact hlt
      obtain ⟨_, A0, C0, hx, ht⟩ := HSQ.out
      obtain ⟨b, off, rfl, _, hb, hc⟩ := hx.2 (by omega)
      obtain ⟨d0, d1, d2⟩ := sq_cells hc hbel (show b < w.heap.size by omega) hlt
      have HTX := hide ((ht k hlt).later hbel (by omega))
      have hl8 : (sqAt qs k).1.length ≤ 8 := by have := (sqOk_parts (chipOk_at HOK.out hql)).1; omega
      have HSN := hide (fun a' c' => rowL_snoc A C qs k a' c')
      have HPS := hide (fun (a' : Option Addr) (c' : Nat) (w' : World) (hb : Below wr.heap.size wr w') (ho : PgOwn (w.heap.size + 3) w' a' c' (sqAt qs k).1) (hf : ∀ m, oB a' = some m → wr.heap.size ≤ m) => HPG.out.snoc hb ho hf)
      clear hc hx ht hbel HPG
      generalize sqAt qs k = y at *
      obtain ⟨ts, zw, bd⟩ := y
      dsimp only at d0 d1 d2 hl8 HTX HSN HPS
      obtain ⟨wB, hwB⟩ : ∃ wB, wB = (wr.alloc (.cells #[.slice (A0 k) ts.length (C0 k), .int .i64 zw, .bool bd] 68)).alloc (.cells #[] 9) := ⟨_, rfl⟩
      have hzB : wB.heap.size = wr.heap.size + 1 + 1 := by rw [hwB]; simp
      have HB1 : Hid (Below wr.heap.size wr wB) := by rw [hwB]; exact (((Below.refl _ _).alloc (Nat.le_refl _) _).alloc (by simp) _)
      have HS0 : Hid (wB.heap[wr.heap.size]? = some (.cells #[.slice (A0 k) ts.length (C0 k), .int .i64 zw, .bool bd] 68)) := by rw [hwB]; exact heap_old (heap_new _ _)
      have hmade : wB.ownsRow (w.heap.size + 3) 9 1 (.slice (some ⟨wr.heap.size + 1, 0, none⟩) 0 0) 0 [] := by
        have := own_made0 (wr.alloc (.cells #[.slice (A0 k) ts.length (C0 k), .int .i64 zw, .bool bd] 68)) 9
        rw [← hwB] at this
        have e : (wr.alloc (.cells #[.slice (A0 k) ts.length (C0 k), .int .i64 zw, .bool bd] 68)).heap.size = wr.heap.size + 1 := by simp
        rw [e] at this
        exact this.mono (by omega)
      obtain ⟨a', c', w2, hap, hpo, hgr, hfr⟩ := append_pages (P := Try.prog) Try.infoStrC Try.underlying66 hmade (by omega) (c := C0 k) (HTX.out.later HB1.out HTX.out.2.1) (by omega)
      have hzB2 := hgr.size
      have HAP := hide hap
      have HB2 := hide (HB1.out.grown hgr (by omega) (fun m hm => by simp only [Option.some.injEq] at hm; omega))
      have HS2 : Hid (w2.heap[wr.heap.size]? = some (.cells #[.slice (A0 k) ts.length (C0 k), .int .i64 zw, .bool bd] 68)) := (hgr.block wr.heap.size (by omega) (fun e => by simp only [Option.some.injEq] at e; omega)).trans HS0.out
      have HP2 := hide (HPS.out a' c' w2 HB2.out hpo (fun m hm => by have := hfr m hm; omega))
      obtain ⟨s0, s1, s2⟩ := three_cells HS0.out
      obtain ⟨u0, u1, u2⟩ := three_cells HS2.out
      have fz := four_frozen HS2.out 0
      clear hap hpo hgr hfr HPS hmade
      rw [hwB] at s0 s1 s2
      go_upto_region 7 with (at_builtin; (first | rw [← hwB] | skip); refine wpList_append_eq rfl (.tmp 21) (.tmp 23) 66 rfl _ _ _ w2 rfl rfl HAP.out ?_)
      have HS3 := hide (set_block HS2.out 0 (.slice a' ts.length c') (by simp))
      have K03 := hide (set_other (block_on K0.out HB2.out) (show wr.heap.size ≠ w.heap.size by omega) (o := 0) (.slice a' ts.length c'))
      have K13 := hide (set_other (block_on K1.out HB2.out) (show wr.heap.size ≠ w.heap.size + 1 by omega) (o := 0) (.slice a' ts.length c'))
      have K23 := hide (set_other (block_on K2.out HB2.out) (show wr.heap.size ≠ w.heap.size + 1 + 1 by omega) (o := 0) (.slice a' ts.length c'))
      have HP3 := hide (HP2.out.keepT (grown_set w2 ⟨wr.heap.size, 0, none⟩ (.slice a' ts.length c')) HS2.out (by decide))
      have HO3 := hide (ownsRow_setCell_other (HOW.out.kept (grown_below HB2.out none) (by cases hv : V.ownBlock with | none => exact .inl rfl | some q => exact .inr (by simp))) (a := ⟨wr.heap.size, 0, none⟩) (by intro e; have := (HOW.out.lt _ e).2; simp at this) (.slice a' ts.length c'))
      have HB3 := hide (HB2.out.setCell (p := ⟨wr.heap.size, 0, none⟩) (Nat.le_refl _) (.slice a' ts.length c'))
      have hz3 : w2.heap.size = (w2.setCell ⟨wr.heap.size, 0, none⟩ (.slice a' ts.length c')).heap.size := (Go.Deep.nblk_setCell _ _ _).symm
      clear HS2 HP2 K0 K1 K2 HOW HB2 HS0 HB1 HAP s0 s1 s2 u0 u1 u2 fz hwB c0 c1
      generalize w2.setCell ⟨wr.heap.size, 0, none⟩ (.slice a' ts.length c') = w3 at *
      obtain ⟨s0, s1, s2⟩ := three_cells (show w3.heap[wr.heap.size]? = some (.cells #[.slice a' ts.length c', .int .i64 zw, .bool bd] 68) from HS3.out)
      obtain ⟨o0, o1⟩ := two_cells K23.out
      have HO4 := hide (HO3.out.alloc (.cells #[.slice a' ts.length c', .int .i64 zw, .bool bd] 68))
      have HB4 := hide ((Below.refl w3.heap.size w3).alloc (Nat.le_refl _) (.cells #[.slice a' ts.length c', .int .i64 zw, .bool bd] 68))
      have hz4 : (w3.alloc (.cells #[.slice a' ts.length c', .int .i64 zw, .bool bd] 68)).heap.size = w3.heap.size + 1 := by simp
      go_wp2_with (at_builtin; (refine wpList_append_own_at _ rfl (.tmp 27) (.tmp 29) 29 rfl (w.heap.size + 3) 68 i0 (.agg #[.slice none 0 0, .int .i64 0, .bool false]) 3 40 Try.underlying29 hi0 hzz0 hzz1 hzz2 rfl (by decide) V k (rowL A C qs k) rfl HO4.out ⟨w3.heap.size, 0, none⟩ 1 1 [.slice a' ts.length c', .int .i64 zw, .bool bd] rfl rfl (cell_three_new _ _ _ _ _) (three_one _ _ _ _ _) (by unfold maxLen; omega) (by omega) (by omega) ?_); intro v' w5 hown5 hgr5 _ _; obtain ⟨g', q', rfl⟩ := Go.Joins.ownsRow_form hown5 (Nat.succ_pos k); have HOW5 := hide hown5; have HGR5 := hide hgr5; have K25 : Hid (w5.heap[w.heap.size + 1 + 1]? = some (.cells #[.int .i64 z, V] 31)) := (hgr5.block _ (by omega) (fun e => by have := (HO4.out.lt _ e.symm).1; omega)).trans (block_on K23.out HB4.out); obtain ⟨o2, o3⟩ := two_cells K25.out; have f5 := four_frozen K25.out 1; clear hown5 hgr5)
      have hz5 := HGR5.out.size
      have hV : ∀ m, V.ownBlock = some m → w.heap.size + 3 ≤ m := fun m hm => (HO4.out.lt m hm).1
      obtain ⟨v', hv'⟩ : ∃ v', v' = Value.slice (some ⟨g', 0, none⟩) (k + 1) q' := ⟨_, rfl⟩
      rw [← hv'] at HOW5 ⊢
      refine ⟨⟨k + 1, v', upd A k a', upd C k c', by omega, by go_num, ?_, ?_, set_block K25.out 1 v' (by simp), ?_, ?_, ?_, ?_⟩, by simp [intOf]; omega⟩
      · exact set_other ((HGR5.out.block _ (by omega) (fun e => by have := hV _ e.symm; omega)).trans (block_on K03.out HB4.out)) (by omega) _
      · exact set_other ((HGR5.out.block _ (by omega) (fun e => by have := hV _ e.symm; omega)).trans (block_on K13.out HB4.out)) (by omega) _
      · rw [← HSN.out]; exact ownsRow_setCell_below HOW5.out (a := ⟨w.heap.size + 1 + 1, 1, none⟩) (by show w.heap.size + 1 + 1 < _; omega) v'
      · refine ((HP3.out.later HB4.out).keep HGR5.out (fun i m hi hm e => ?_)).keepT (grown_set w5 ⟨w.heap.size + 1 + 1, 1, none⟩ v') K25.out (by decide)
        obtain ⟨cs, fz, h2⟩ := Go.Lib.ownsRow_kind HO4.out m e
        exact pg_ne ((HP3.out.later HB4.out).own i hi) h2 (by decide) hm
      · rw [Go.Deep.nblk_setCell]; omega
      · exact ((below_here (HBB.out.trans (HB3.out.mono (by omega))) HB4.out).grown HGR5.out (by omega) (fun m hm => by have := hV m hm; omega)).setCell (p := ⟨w.heap.size + 1 + 1, 1, none⟩) (by show w.heap.size ≤ w.heap.size + 1 + 1; omega) v'
    · obtain rfl : k = n := by omega
      obtain ⟨g, c, rfl, hG⟩ := grow_of_row (by omega) HL.out HOW.out HPG.out (by decide)
      obtain ⟨o0, o1⟩ := two_cells K2.out
      obtain ⟨p0, p1⟩ := two_cells K1.out
      have f0 := four_frozen K1.out 0
      have f1 := four_frozen K1.out 1
      have HRS := hide (two_set K1.out (.int .i64 z) (.slice (some ⟨g, 0, none⟩) k c))
      have HAS := hide (two_aside (b := w.heap.size + 1) (Aside.refl (w.heap.size + 1) (w.heap.size + 2) wr) (by omega) (by omega) (.int .i64 z) (.slice (some ⟨g, 0, none⟩) k c))
      have HGG := hide ((hG.aside HAS.out (.inl (by omega))).mono (show w.heap.size ≤ w.heap.size + 3 by omega))
      have HBF := hide (HBB.out.trans (HAS.out.below (B := w.heap.size) (by omega) (by omega)))
      clear hG
      go_wp2_with fail
      refine bodyPost_ret (results_cell rfl rfl (run_loadVar_row _ _ _ _ _ _ _ HRS.out Try.underlying31 rfl (by kernel_rfl))) rfl ⟨g, c, A, C, rfl, HGG.out, HBF.out⟩
end Go.Proofs.Ytceidhlcbbikcam
