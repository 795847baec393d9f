/- Several texts in one: ChipCopyS, WearLaw, ChipOnly, WearSpecA, WearSpecB, WearSpecE, WearSpecF, WearImplC. -/
import Derived.Test.YtocinobbocjikaaJChipGrow
import Derived.RegionTactic
import Derived.Deep.DeepCutAuto
import Derived.Test.YtocinobbocjikaaJChipOkS
import Derived.Deep.QuietTactic
import Derived.BigQuiet
section
namespace Go.Proofs.Ytocinobbocjikaa
open Go.RowKit
set_option linter.unusedVariables false
set_option maxRecDepth 20000

theorem pg_ne {B : Nat} {w : World} {a : Option Addr} {c : Nat} {ts : List ByteArray} (h : PgOwn B w a c ts) {p : Nat} {cs : Array Value} {T : TypeId} {fr : Nat × Nat} (hp : w.heap[p]? = some (.cells cs T fr)) (hT : T ≠ 9) : oB a ≠ some p := by
  intro e
  obtain ⟨c', fz, h2⟩ := Go.Lib.ownsRow_kind h p (by rw [ownBlock_slice]; exact e)
  rw [hp] at h2
  simp only [Option.some.injEq, Obj.cells.injEq] at h2
  exact hT h2.2.1
theorem Pgs.keepT {B k p : Nat} {w w' : World} {qs : List Sq} {A : Nat → Option Addr} {C : Nat → Nat} (h : Pgs B w k qs A C) (hg : w.grownBy w' (some p)) {cs : Array Value} {T : TypeId} {fr : Nat × Nat} (hp : w.heap[p]? = some (.cells cs T fr)) (hT : T ≠ 9) : Pgs B w' k qs A C :=
  h.keep hg (fun i m hi hm e => pg_ne (h.own i hi) hp hT (by rw [hm]; exact e.symm))
theorem GrowSqs.mono {B B' n g : Nat} {w : World} {qs : List Sq} {A : Nat → Option Addr} {C : Nat → Nat} (h : GrowSqs B w n qs g A C) (hB : B' ≤ B) : GrowSqs B' w n qs g A C :=
  ⟨h.len, h.row, ⟨fun i hi => (h.pages.own i hi).mono hB, h.pages.apart⟩, Nat.le_trans hB h.atG, h.apartG⟩
/-- The cells of the first k Squares. -/
def rowL (A : Nat → Option Addr) (C : Nat → Nat) (qs : List Sq) (k : Nat) : List Value := (List.range (3 * k)).map (cellQ A C qs)
theorem rowL_length (A : Nat → Option Addr) (C : Nat → Nat) (qs : List Sq) (k : Nat) : (rowL A C qs k).length = k * 3 := by unfold rowL; simp; omega
theorem rowL_snoc (A : Nat → Option Addr) (C : Nat → Nat) (qs : List Sq) (k : Nat) (a' : Option Addr) (c' : Nat) :
    rowL A C qs k ++ [.slice a' (sqAt qs k).1.length c', .int .i64 (sqAt qs k).2.1, .bool (sqAt qs k).2.2] = rowL (upd A k a') (upd C k c') qs (k + 1) := by
  unfold rowL
  rw [show 3 * (k + 1) = 3 * k + 1 + 1 + 1 by omega, List.range_succ, List.range_succ, List.range_succ]
  simp only [List.map_append, List.map_cons, List.map_nil, List.append_assoc]
  rw [cellQ0, cellQ1, show 3 * k + 1 + 1 = 3 * k + 2 from rfl, cellQ2, upd_same, upd_same]
  have : (List.range (3 * k)).map (cellQ A C qs) = (List.range (3 * k)).map (cellQ (upd A k a') (upd C k c') qs) := by
    apply List.map_congr_left
    intro j hj
    rw [List.mem_range] at hj
    rw [cellQ_cell3, cellQ_cell3, upd_other _ _ (show j / 3 ≠ k by omega), upd_other _ _ (show j / 3 ≠ k by omega)]
  rw [this]
  rfl
/-- A row of Squares that was appended to, all of it. -/
theorem grow_of_row {B n : Nat} {w : World} {v : Value} {qs : List Sq} {A : Nat → Option Addr} {C : Nat → Nat} (hn : 0 < n) (hl : qs.length = n) (h : w.ownsRow B 40 3 v n (rowL A C qs n)) (hp : Pgs B w n qs A C) (hT : 40 ≠ 9) :
    ∃ g c, v = .slice (some ⟨g, 0, none⟩) n c ∧ GrowSqs B w n qs g A C := by
  obtain ⟨g, c, rfl⟩ := Go.Joins.ownsRow_form h hn
  refine ⟨g, c, rfl, hl, ?_, hp, (h.lt g rfl).1, fun i hi e => ?_⟩
  · have := (h.lt g rfl).2
    refine ⟨by omega, fun _ => ⟨g, 0, rfl, Nat.le_refl _, Nat.lt_succ_self _, fun j hj => ⟨?_, by rw [Nat.zero_add]; exact h.frozenAt j⟩⟩⟩
    rw [Nat.zero_add, h.cellAt j (by omega)]
    unfold rowL
    simp [hj]
  · obtain ⟨cs, fz, h2⟩ := Go.Lib.ownsRow_kind h g rfl
    exact pg_ne (hp.own i hi) h2 hT e
/-- 'append([]string{}, s...)': new Pages. -/
theorem append_pages {P : Program} (hinfo : (P.info? 9).map (fun i => (i.zero, i.size, i.bytes)) = some (some (.string ByteArray.empty), 1, 16)) {t : TypeId} (ht : P.underlying t = some (.slice 9)) {B g : Nat} {w : World} (ho : w.ownsRow B 9 1 (.slice (some ⟨g, 0, none⟩) 0 0) 0 []) (hB : B ≤ w.heap.size)
    {lo hi : Nat} {a : Option Addr} {c : Nat} {ts : List ByteArray} (hx : Texts lo hi w a ts.length ts) (hn : ts.length ≤ 1048576) :
    ∃ a' c' w', (Builtin.append_ #[t, t] t #[.slice (some ⟨g, 0, none⟩) 0 0, .slice a ts.length c]).run P w = .ok (.slice a' ts.length c') w' ∧ PgOwn B w' a' c' ts ∧ w.grownBy w' (some g) ∧ (∀ m, oB a' = some m → m = g ∨ m = w.heap.size) := by
  obtain ⟨i0, hi0, hz0, hz1, hz2⟩ := info_parts hinfo
  cases a with
  | none =>
    have h0 : ts.length = 0 := by
      rcases Nat.eq_zero_or_pos ts.length with h | h
      · exact h
      · obtain ⟨b, off, e, _⟩ := hx.2.2 h; cases e
    have hts : ts = [] := List.eq_nil_of_length_eq_zero h0
    subst hts
    refine ⟨some ⟨g, 0, none⟩, 0, w, ?_, ho, ⟨rfl, rfl, rfl, Nat.le_refl _, fun _ _ _ => rfl⟩, fun m hm => .inl (by have e : some g = some m := hm; simp at e; exact e.symm)⟩
    simp [Builtin.append_, run_underlying ht, sizeOf, typeInfo, hi0, Builtin.lenOf, Builtin.firstCells, storeCells]
  | some x =>
    have hnews : ∀ (j : Nat) u, (pgV ts)[j]? = some u → w.cell? (x.add j) = some u := by
      intro j u hj
      have hjl : j < ts.length := by
        rcases Nat.lt_or_ge j ts.length with h | h
        · exact h
        · rw [List.getElem?_eq_none (by unfold pgV; simpa using h)] at hj; simp at hj
      obtain ⟨b, off, e, _, _, hc⟩ := hx.2.2 (by omega)
      simp only [Option.some.injEq] at e
      subst e
      have hadd : (⟨b, off, none⟩ : Addr).add j = ⟨b, off + j, none⟩ := by unfold Addr.add; split <;> simp_all
      rw [hadd, hc j hjl, ← hj]
      unfold pgV cellT
      rw [List.getElem?_map, List.getD_eq_getElem?_getD, List.getElem?_eq_getElem hjl]
      rfl
    obtain ⟨v', w', h1, h2, h3, h4, h5⟩ := run_append_own_at (P := P) w B t t 9 i0 (.string ByteArray.empty) 1 16 ht hi0 hz0 hz1 hz2 rfl (by decide) _ 0 [] ho x ts.length c (pgV ts) (by unfold pgV; simp) hnews
      (fun u hu => by unfold pgV at hu; rw [List.mem_map] at hu; obtain ⟨s, _, rfl⟩ := hu; rfl) (by unfold maxLen; omega) (by omega) hB
    rw [Nat.zero_add, List.nil_append] at h2
    obtain ⟨a', c', rfl⟩ : ∃ a' c', v' = .slice a' ts.length c' := by
      rcases Go.Joins.ownsRow_forms h2 with ⟨rfl, h0⟩ | ⟨g', c', rfl⟩
      · exact ⟨none, 0, by rw [h0]⟩
      · exact ⟨_, c', rfl⟩
    refine ⟨a', c', w', h1, h2, h3, fun m hm => ?_⟩
    rw [ownBlock_slice, ownBlock_slice, hm] at h5
    rcases h5 with h5 | h5
    · exact .inl (by have e : some m = some g := h5; simp at e; exact e)
    · exact .inr (by simp at h5; exact h5)
theorem cell_three_new (w : World) (x y z : Value) (t : TypeId) : ∀ j u, [x, y, z][j]? = some u → (w.alloc (.cells #[x, y, z] t)).cell? ((⟨w.heap.size, 0, none⟩ : Addr).add j) = some u := by
  intro j u hj
  match j, hj with
  | 0, hj => simp at hj; subst hj; simp [Addr.add]
  | 1, hj => simp at hj; subst hj; simp [Addr.add]
  | 2, hj => simp at hj; subst hj; simp [Addr.add]
theorem three_one (a : Option Addr) (n c : Nat) (z : Int) (b : Bool) : ∀ u ∈ [Value.slice a n c, .int .i64 z, .bool b], u.oneCell' = true := by
  intro u hu
  simp only [List.mem_cons, List.not_mem_nil, or_false] at hu
  rcases hu with rfl | rfl | rfl <;> rfl
theorem chipOk_parts {z : Int} {qs : List Sq} (h : chipOk z qs = true) : 1 ≤ z ∧ z ≤ 8 ∧ 1 ≤ qs.length ∧ qs.length ≤ 12 ∧ ∀ q ∈ qs, sqOk z q = true := by
  unfold chipOk inB at h
  simp only [Bool.and_eq_true, decide_eq_true_eq, List.all_eq_true] at h
  exact ⟨h.1.1, h.1.2, h.2.1, h.2.2.1, h.2.2.2⟩
theorem sqOk_parts {z : Int} {q : Sq} (h : sqOk z q = true) : (q.1.length : Int) ≤ z ∧ 0 ≤ q.2.1 ∧ q.2.1 ≤ 1000000 ∧ ∀ s ∈ q.1, 1 ≤ s.size ∧ s.size ≤ 200 := by
  unfold sqOk inB at h
  simp only [Bool.and_eq_true, decide_eq_true_eq, List.all_eq_true] at h
  refine ⟨h.1, h.2.1.1, h.2.1.2, fun s hs => ?_⟩
  have := h.2.2 s hs
  unfold txOk at this
  simpa using this
theorem sqAt_mem {qs : List Sq} {k : Nat} (h : k < qs.length) : sqAt qs k ∈ qs := by
  unfold sqAt; rw [List.getD_eq_getElem?_getD, List.getElem?_eq_getElem h]; exact List.getElem_mem h
theorem chipOk_at {z : Int} {qs : List Sq} (h : chipOk z qs = true) {k : Nat} (hk : k < qs.length) : sqOk z (sqAt qs k) = true := (chipOk_parts h).2.2.2.2 _ (sqAt_mem hk)
theorem chipOk_fits {z : Int} {qs : List Sq} (h : chipOk z qs = true) : ∀ x ∈ qs, sqFits x := by
  intro x hx
  obtain ⟨_, h2, _, _, h5⟩ := chipOk_parts h
  obtain ⟨k1, k2, k3, k4⟩ := sqOk_parts (h5 x hx)
  refine ⟨fun s hs => ?_, ?_, ?_⟩
  · have := (k4 s hs).2; unfold maxLen; omega
  · unfold maxLen; omega
  · show (decide _ && decide _) = true; rw [Bool.and_eq_true, decide_eq_true_eq, decide_eq_true_eq]; refine ⟨Int.le_trans (by decide) k2, Int.le_trans k3 (by decide)⟩
theorem Try.infoStrC : (Try.prog.info? 9).map (fun i => (i.zero, i.size, i.bytes)) = some (some (.string ByteArray.empty), 1, 16) := by kernel_rfl

end Go.Proofs.Ytocinobbocjikaa
end

section
namespace Go.Proofs.Ytocinobbocjikaa
open Go.RowKit
set_option linter.unusedVariables false

theorem nodup_lt : ∀ (L : Nat) (l : List Nat), l.Nodup → (∀ x ∈ l, x < L) → l.length ≤ L
  | 0, l, _, h => by
    cases l with
    | nil => exact Nat.le_refl _
    | cons x xs => exact absurd (h x (by simp)) (by omega)
  | L + 1, l, hn, h => by
    by_cases hm : L ∈ l
    · have h1 := nodup_lt L (l.erase L) (hn.erase L) (fun x hx => by
        rw [hn.mem_erase_iff] at hx
        have := h x hx.2
        have := hx.1
        omega)
      rw [List.length_erase_of_mem hm] at h1
      omega
    · have h1 := nodup_lt L l hn (fun x hx => by
        have := h x hx
        by_cases e : x = L
        · subst e; exact absurd hx hm
        · omega)
      omega
/-- The pages of a map that lie in Square b, among the first k. -/
def pagesK (ps : List Pl) (b : Int) (k : Nat) : List Nat := ((ps.take k).filter (fun p => p.1 == b)).map (fun p => p.2.toNat)
theorem take_mem {ps : List Pl} {k : Nat} {x : Pl} (h : x ∈ ps.take k) : ∃ j, j < k ∧ j < ps.length ∧ plAt ps j = x := by
  obtain ⟨j, hj, e⟩ := List.getElem_of_mem h
  rw [List.length_take] at hj
  refine ⟨j, by omega, by omega, ?_⟩
  rw [List.getElem_take] at e
  unfold plAt
  rw [List.getD_eq_getElem?_getD, List.getElem?_eq_getElem (by omega)]
  exact e
theorem plOk_at {z : Int} {qs : List Sq} {ps : List Pl} (h : mapOk z qs ps = true) {i : Nat} (hi : i < ps.length) : plOk qs ps i = true := by
  unfold mapOk at h
  simp only [Bool.and_eq_true] at h
  exact List.all_eq_true.1 h.2.2.2 i (List.mem_range.2 hi)
theorem plOk_page {qs : List Sq} {ps : List Pl} {i b : Nat} (h : plOk qs ps i = true) (hb : (plAt ps i).1 = (b : Int)) : 0 ≤ (plAt ps i).2 ∧ (plAt ps i).2 < ((sqAt qs b).1.length : Int) ∧ ∀ k, k < i → plAt ps k ≠ plAt ps i := by
  unfold plOk at h
  rw [Bool.or_eq_true] at h
  rcases h with h | h
  · have e : plAt ps i = (-1, 0) := by simpa using h
    rw [e] at hb
    have : (-1 : Int) = (b : Int) := hb
    omega
  · rw [Bool.and_eq_true] at h
    obtain ⟨h1, h2⟩ := h
    unfold plThere inB at h1
    simp only [Bool.and_eq_true, decide_eq_true_eq] at h1
    rw [hb, Int.toNat_natCast] at h1
    refine ⟨h1.2.1, by omega, fun k hk e => ?_⟩
    have := List.all_eq_true.1 h2 k (List.mem_range.2 hk)
    simp [e] at this
theorem pagesK_ok {z : Int} {qs : List Sq} {ps : List Pl} (h : mapOk z qs ps = true) (b : Nat) : ∀ k, k ≤ ps.length → (pagesK ps (b : Int) k).Nodup ∧ ∀ x ∈ pagesK ps (b : Int) k, x < (sqAt qs b).1.length
  | 0, _ => by unfold pagesK; simp
  | k + 1, hk => by
    have ih := pagesK_ok h b k (by omega)
    have hkl : k < ps.length := by omega
    have hok := plOk_at h hkl
    have hst : pagesK ps (b : Int) (k + 1) = pagesK ps (b : Int) k ++ (if (plAt ps k).1 == (b : Int) then [(plAt ps k).2.toNat] else []) := by
      unfold pagesK plAt
      rw [List.take_succ_eq_append_getElem hkl, List.filter_append, List.map_append, List.getD_eq_getElem?_getD, List.getElem?_eq_getElem hkl]
      simp only [Option.getD_some, List.filter_cons, List.filter_nil]
      split <;> simp
    by_cases hb : (plAt ps k).1 = (b : Int)
    · have hpg := plOk_page hok hb
      have hbb : ((plAt ps k).1 == (b : Int)) = true := by simpa using hb
      rw [hst, hbb, if_pos rfl]
      refine ⟨?_, fun x hx => ?_⟩
      · rw [List.nodup_append]
        refine ⟨ih.1, List.pairwise_singleton _ _, fun x hx y hy => ?_⟩
        rw [List.mem_singleton] at hy
        subst hy
        intro e
        unfold pagesK at hx
        rw [List.mem_map] at hx
        obtain ⟨u, hu, hu2⟩ := hx
        rw [List.mem_filter] at hu
        obtain ⟨j, hj1, hj2, hj3⟩ := take_mem hu.1
        have hu1 : u.1 = (b : Int) := by simpa using hu.2
        have hpj := plOk_page (plOk_at h hj2) (show (plAt ps j).1 = (b : Int) by rw [hj3]; exact hu1)
        rw [hj3] at hpj
        refine hpg.2.2 j hj1 ?_
        rw [hj3]
        have e2 : u.2 = (plAt ps k).2 := by omega
        have e1 : u.1 = (plAt ps k).1 := by rw [hu1, hb]
        exact Prod.ext e1 e2
      · rw [List.mem_append, List.mem_singleton] at hx
        rcases hx with hx | rfl
        · exact ih.2 x hx
        · omega
    · have hbb : ((plAt ps k).1 == (b : Int)) = false := by simpa using hb
      rw [hst, hbb]
      simpa using ih
/-- No more are Live in a Square than it has pages. -/
theorem live_le {z : Int} {qs : List Sq} {ps : List Pl} (h : mapOk z qs ps = true) (b : Nat) : liveN ps (b : Int) ≤ (sqAt qs b).1.length := by
  have h1 := pagesK_ok h b ps.length (Nat.le_refl _)
  have h2 := nodup_lt _ _ h1.1 h1.2
  unfold pagesK at h2
  rw [List.take_of_length_le (Nat.le_refl _), List.length_map] at h2
  exact h2
theorem leastK_le {z : Int} {qs : List Sq} (h : chipOk z qs = true) : ∀ k, k ≤ qs.length → ∀ j, j < k → (sqAt qs j).2.2 = false → 0 ≤ leastK qs k ∧ leastK qs k ≤ (sqAt qs j).2.1
  | 0, _, j, hj, _ => absurd hj (by omega)
  | k + 1, hk, j, hj, hb => by
    have hw := (sqOk_parts (chipOk_at h (show k < qs.length by omega))).2.1
    unfold leastK
    by_cases e : j = k
    · subst e
      rw [hb]
      simp only [Bool.false_eq_true, if_false]
      split
      · omega
      · omega
    · have ih := leastK_le h k (by omega) j (by omega) hb
      split
      · exact ih
      · split
        · omega
        · exact ih
theorem mostK_ge {qs : List Sq} : ∀ k, ∀ j, j < k → (sqAt qs j).2.2 = false → (sqAt qs j).2.1 ≤ mostK qs k
  | 0, j, hj, _ => absurd hj (by omega)
  | k + 1, j, hj, hb => by
    unfold mostK
    by_cases e : j = k
    · subst e
      rw [hb]
      simp only [Bool.false_eq_true, if_false]
      split
      · omega
      · omega
    · have ih := mostK_ge k j (by omega) hb
      split
      · exact ih
      · split
        · exact ih
        · omega
/-- What FnWear asks of Empty's list. -/
theorem empty_at {z : Int} {qs : List Sq} {i : Nat} (hi : i < (emptyL z qs).length) : ∃ e : Nat, (emptyL z qs).getD i 0 = (e : Int) ∧ e < qs.length ∧ (sqAt qs e).1.length = 0 ∧ (sqAt qs e).2.2 = false ∧ (worn z qs).1 ≤ (sqAt qs e).2.1 ∧ (sqAt qs e).2.1 ≤ (worn z qs).2 ∧
    ∀ j, i = j + 1 → ∃ d : Nat, (emptyL z qs).getD j 0 = (d : Int) ∧ d < qs.length ∧ ((sqAt qs d).2.1 < (sqAt qs e).2.1 ∨ (sqAt qs d).2.1 = (sqAt qs e).2.1 ∧ (d : Int) < (e : Int)) := by
  cases hok : chipOk z qs with
  | false =>
    unfold emptyL at hi
    rw [hok] at hi
    simp at hi
  | true =>
    have hE : emptyL z qs = (emptyK qs qs.length).map (fun (i : Nat) => (i : Int)) := by unfold emptyL; rw [hok]; rfl
    have hW : worn z qs = (leastK qs qs.length, mostK qs qs.length) := by unfold worn; rw [hok]; rfl
    rw [hE, List.length_map] at hi
    have hat : ∀ k, (hk : k < (emptyK qs qs.length).length) → (emptyL z qs).getD k 0 = (((emptyK qs qs.length)[k] : Nat) : Int) := fun k hk => by
      rw [hE, List.getD_eq_getElem?_getD, List.getElem?_map, List.getElem?_eq_getElem hk]; rfl
    have hmem := (emptyK_mem qs qs.length ((emptyK qs qs.length)[i])).1 (List.getElem_mem hi)
    have he := hmem.2
    unfold isEmpty at he
    simp only [Bool.and_eq_true, Bool.not_eq_true', beq_iff_eq] at he
    have hl := leastK_le hok qs.length (Nat.le_refl _) _ hmem.1 he.2
    have hm := mostK_ge qs.length _ hmem.1 he.2
    refine ⟨(emptyK qs qs.length)[i], hat i hi, hmem.1, he.1, he.2, by rw [hW]; exact hl.2, by rw [hW]; exact hm, fun j hj => ?_⟩
    have hji : j < (emptyK qs qs.length).length := by omega
    have hmj := (emptyK_mem qs qs.length ((emptyK qs qs.length)[j])).1 (List.getElem_mem hji)
    have hs := List.pairwise_iff_getElem.1 (emptyK_sorted qs qs.length) j i hji hi (by omega)
    refine ⟨(emptyK qs qs.length)[j], hat j hji, hmj.1, ?_⟩
    unfold aheadW at hs
    omega
/-- What FnWear asks of the victim. -/
theorem victim_at {z : Int} {qs : List Sq} {ps : List Pl} {op : Int} (h : 0 ≤ victim z qs ps op) : ∃ b : Nat, victim z qs ps op = (b : Int) ∧ mapOk z qs ps = true ∧ b < qs.length ∧ (b : Int) ≠ op ∧ (liveN ps (b : Int) : Int) < z ∧ 0 < (sqAt qs b).1.length ∧ (sqAt qs b).2.2 = false ∧ ∀ i, i < qs.length → (i : Int) ≠ op → 0 < (sqAt qs i).1.length → (sqAt qs i).2.2 = false → liveN ps (b : Int) ≤ liveN ps (i : Int) := by
  cases hok : mapOk z qs ps with
  | false => unfold victim at h; rw [hok] at h; simp at h
  | true =>
    have hv : victim z qs ps op = victimV z qs ps op := by unfold victim; rw [hok]; rfl
    rw [hv] at h ⊢
    unfold victimV at h ⊢
    cases hb : bestK qs ps op qs.length with
    | none => rw [hb] at h; simp at h
    | some b =>
      rw [hb] at h
      dsimp only at h ⊢
      have hs := bestK_some hb
      have hlt := bestK_lt hb
      by_cases hz : (liveN ps (b : Int) : Int) = z
      · rw [if_pos hz] at h; omega
      · rw [if_neg hz]
        have hm := hs.1
        unfold mayV at hm
        simp only [Bool.and_eq_true, Bool.not_eq_true', beq_eq_false_iff_ne, ne_eq] at hm
        have hle := live_le hok b
        have hsz := (sqOk_parts (chipOk_at (mapOk_chip hok) hlt)).1
        refine ⟨b, rfl, rfl, hlt, hm.2.2, by omega, by omega, hm.2.1, fun i hi h1 h2 h3 => ?_⟩
        have hmi : mayV qs op i = true := by
          unfold mayV
          have g1 : ((sqAt qs i).1.length == 0) = false := by simp; intro e; rw [e] at h2; simp at h2
          have g2 : ((i : Int) == op) = false := by simpa using h1
          rw [g1, g2, h3]; rfl
        have hn := hs.2 i hi hmi
        unfold lessR rkV9 at hn
        dsimp only at hn
        omega
end Go.Proofs.Ytocinobbocjikaa
end

section
namespace Go.Proofs.Ytocinobbocjikaa
open Go.RowKit
set_option linter.unusedVariables false

/-- Only the row g and rows of texts are written, none below B. -/
structure Only (B g : Nat) (w w' : World) : Prop where
  below : Below B w w'
  other : ∀ k cs T fr, k ≠ g → T ≠ 9 → w.heap[k]? = some (.cells cs T fr) → w'.heap[k]? = some (.cells cs T fr)
section
variable {B g : Nat} {w w1 w2 : World}
theorem Only.refl (B g : Nat) (w : World) : Only B g w w := ⟨Below.refl _ _, fun _ _ _ _ _ _ h => h⟩
theorem Only.trans (h : Only B g w w1) (k : Only B g w1 w2) : Only B g w w2 := ⟨h.below.trans k.below, fun q cs T fr h1 h2 h3 => k.other q cs T fr h1 h2 (h.other q cs T fr h1 h2 h3)⟩
theorem Only.on (h : Only B g w w1) (hb : Below w1.heap.size w1 w2) (hB : B ≤ w1.heap.size) : Only B g w w2 :=
  ⟨h.below.trans (hb.mono hB), fun q cs T fr h1 h2 h3 => block_on (h.other q cs T fr h1 h2 h3) hb⟩
theorem only_of_below (h : Below w.heap.size w w1) (hB : B ≤ w.heap.size) : Only B g w w1 := (Only.refl B g w).on h hB
theorem Only.grown (h : Only B g w w1) {a : Option Addr} {c : Nat} {ts : List ByteArray} (hp : PgOwn B w1 a c ts) (hg : w1.grownBy w2 (oB a)) (hB : B ≤ w1.heap.size) : Only B g w w2 :=
  ⟨h.below.grown hg hB (fun k hk => (pg_lt hp k hk).1), fun q cs T fr h1 h2 h3 => by
    have h4 := h.other q cs T fr h1 h2 h3
    rw [hg.block q (Array.getElem?_eq_some_iff.1 h4).1 (fun e => pg_ne hp h4 h2 e.symm)]
    exact h4⟩
theorem Only.set (h : Only B g w w1) (hg : B ≤ g) (j : Nat) (v : Value) : Only B g w (w1.setCell ⟨g, j, none⟩ v) :=
  ⟨h.below.setCell (p := ⟨g, j, none⟩) hg v, fun q cs T fr h1 h2 h3 => set_other (h.other q cs T fr h1 h2 h3) (Ne.symm h1) v⟩
theorem Only.setPg (h : Only B g w w1) {p c : Nat} {ts : List ByteArray} (hp : PgOwn B w1 (some ⟨p, 0, none⟩) c ts) (k : Nat) (v : Value) : Only B g w (w1.setCell ⟨p, k, none⟩ v) :=
  ⟨h.below.setCell (p := ⟨p, k, none⟩) (pg_lt hp p rfl).1 v, fun q cs T fr h1 h2 h3 => by
    have h4 := h.other q cs T fr h1 h2 h3
    exact set_other h4 (fun e => pg_ne hp h4 h2 (by rw [← e]; rfl)) v⟩
end

/-- A Square behind a Job that is taken. -/
def sqDo (q : Sq) (kd : Int) (tx : ByteArray) : Sq := if kd = 1 then (q.1 ++ [tx], q.2.1, q.2.2) else if kd = 2 then ([], q.2.1 + 1, q.2.2) else (q.1, q.2.1, true)
def doJ (z : Int) (qs : List Sq) (j : Jb) : List Sq := if canJ z qs j then qs.set j.2.1.toNat (sqDo (sqAt qs j.2.1.toNat) j.1 j.2.2) else qs
theorem canJ_parts {z : Int} {qs : List Sq} {j : Jb} (h : canJ z qs j = true) : ∃ i : Nat, j.2.1 = (i : Int) ∧ i < qs.length ∧ (sqAt qs i).2.2 = false ∧ canK z (sqAt qs i) j.1 j.2.2 = true := by
  unfold canJ inB at h
  simp only [Bool.and_eq_true, decide_eq_true_eq, Bool.not_eq_true'] at h
  obtain ⟨⟨h1, h2⟩, h3, h4⟩ := h
  exact ⟨j.2.1.toNat, by omega, by omega, h3, h4⟩
theorem canK_kind {z : Int} {q : Sq} {kd : Int} {tx : ByteArray} (h : canK z q kd tx = true) : (kd = 1 ∧ (q.1.length : Int) < z ∧ 1 ≤ tx.size ∧ tx.size ≤ 200) ∨ (kd = 2 ∧ q.2.1 < 1000000) ∨ kd = 3 := by
  unfold canK txOk at h
  by_cases h1 : kd = 1
  · rw [if_pos h1] at h
    simp only [Bool.and_eq_true, decide_eq_true_eq] at h
    exact .inl ⟨h1, h.1, h.2.1, h.2.2⟩
  · rw [if_neg h1] at h
    by_cases h2 : kd = 2
    · rw [if_pos h2] at h
      exact .inr (.inl ⟨h2, by simpa using h⟩)
    · rw [if_neg h2] at h
      exact .inr (.inr (by simpa using h))
theorem doJ_yes {z : Int} {qs : List Sq} {kd : Int} {i : Nat} {tx : ByteArray} (h : canJ z qs (kd, (i : Int), tx) = true) : doJ z qs (kd, (i : Int), tx) = qs.set i (sqDo (sqAt qs i) kd tx) := by
  unfold doJ; rw [if_pos h]; simp
theorem doJ_no {z : Int} {qs : List Sq} {j : Jb} (h : canJ z qs j = false) : doJ z qs j = qs := by
  unfold doJ; rw [if_neg (by rw [h]; simp)]
theorem doJ_length (z : Int) (qs : List Sq) (j : Jb) : (doJ z qs j).length = qs.length := by
  unfold doJ; split <;> simp
theorem set_ok {z : Int} {qs : List Sq} {i : Nat} {x : Sq} (h : chipOk z qs = true) (hx : sqOk z x = true) : chipOk z (qs.set i x) = true := by
  obtain ⟨h1, h2, h3, h4, h5⟩ := chipOk_parts h
  unfold chipOk inB
  simp only [Bool.and_eq_true, decide_eq_true_eq, List.all_eq_true, List.length_set]
  refine ⟨⟨h1, h2⟩, h3, h4, fun q hq => ?_⟩
  rcases List.mem_or_eq_of_mem_set hq with h | h
  · exact h5 q h
  · rw [h]; exact hx
theorem sqDo_ok {z : Int} {q : Sq} {kd : Int} {tx : ByteArray} (h : sqOk z q = true) (hk : canK z q kd tx = true) (hz : 1 ≤ z) : sqOk z (sqDo q kd tx) = true := by
  have h0 := h
  unfold sqOk inB at h ⊢
  simp only [Bool.and_eq_true, decide_eq_true_eq, List.all_eq_true] at h ⊢
  obtain ⟨h1, ⟨h2, h3⟩, h4⟩ := h
  rcases canK_kind hk with ⟨rfl, k1, k2, k3⟩ | ⟨rfl, k1⟩ | rfl
  · unfold sqDo
    rw [if_pos rfl]
    refine ⟨by simp; omega, ⟨h2, h3⟩, fun s hs => ?_⟩
    simp only [List.mem_append, List.mem_singleton] at hs
    rcases hs with hs | rfl
    · exact h4 s hs
    · unfold txOk; simp [k2, k3]
  · unfold sqDo
    rw [if_neg (by decide), if_pos rfl]
    exact ⟨by simp; omega, ⟨by show 0 ≤ q.2.1 + 1; omega, by show q.2.1 + 1 ≤ 1000000; omega⟩, fun s hs => absurd hs (by simp)⟩
  · unfold sqDo
    rw [if_neg (by decide), if_neg (by decide)]
    exact ⟨h1, ⟨h2, h3⟩, h4⟩
theorem doJ_ok {z : Int} {qs : List Sq} {j : Jb} (h : chipOk z qs = true) : chipOk z (doJ z qs j) = true := by
  cases hc : canJ z qs j with
  | false => rw [doJ_no hc]; exact h
  | true =>
    obtain ⟨i, hi, hl, _, hk⟩ := canJ_parts hc
    obtain ⟨kd, sq, tx⟩ := j
    dsimp only at hi hk
    subst hi
    rw [doJ_yes hc]
    exact set_ok h (sqDo_ok (chipOk_at h hl) hk (chipOk_parts h).1)
/-- A right Chip is small. -/
theorem total_small {ts : List ByteArray} {n : Nat} (hl : ts.length ≤ n) (h : ∀ s ∈ ts, s.size ≤ 200) : total ts ≤ n * 200 := by
  induction ts generalizing n with
  | nil => simp [total]
  | cons t ts ih =>
    cases n with
    | zero => simp at hl
    | succ n =>
      have h1 := ih (n := n) (by simpa using hl) (fun s hs => h s (by simp [hs]))
      have h2 := h t (by simp)
      unfold total at h1 ⊢
      simp only [List.map_cons, List.sum_cons]
      omega
theorem weight_small {qs : List Sq} {n : Nat} (hl : qs.length ≤ n) (h : ∀ q ∈ qs, q.1.length + total q.1 ≤ 1608) : weight qs ≤ n * 1608 := by
  induction qs generalizing n with
  | nil => simp [weight]
  | cons t ts ih =>
    cases n with
    | zero => simp at hl
    | succ n =>
      have h1 := ih (n := n) (by simpa using hl) (fun s hs => h s (by simp [hs]))
      have h2 := h t (by simp)
      unfold weight at h1 ⊢
      simp only [List.map_cons, List.sum_cons]
      omega
theorem chipOk_fit {z : Int} {qs : List Sq} (h : chipOk z qs = true) : qs.length + weight qs ≤ 1048576 := by
  obtain ⟨h1, h2, h3, h4, h5⟩ := chipOk_parts h
  have := weight_small (n := 12) h4 (fun q hq => by
    obtain ⟨k1, _, _, k4⟩ := sqOk_parts (h5 q hq)
    have k5 : q.1.length ≤ 8 := by omega
    have := total_small k5 (fun s hs => (k4 s hs).2)
    omega)
  omega
end Go.Proofs.Ytocinobbocjikaa
end

section
namespace Go.Proofs.Ytocinobbocjikaa
open Go.RowKit
set_option linter.unusedVariables false
set_option maxRecDepth 20000

set_option maxHeartbeats 800000 in
theorem l9Live_any (a : Option Addr) (n cap : Nat) (ps : List Pl) (s : Int) (w : World) {lo hi : Nat} (h : Places lo hi w a n ps) (hn : n ≤ 1048576) :
    Calls Try.prog 40 #[.slice a n cap, .int .i64 s] w fun e w' => e = .returned (.int .i64 (liveN ps s : Int)) ∧ w = w' := by
  obtain ⟨hl, hx⟩ := h
  have HL := hide hl
  have HX := hide hx
  have hsz := hx.1
  clear hl hx
  go_enter Try.func40, Try.ntmps40
  go_wp2_with fail
  go_loopw [5, 6] (fun t i wr => ∃ k : Nat, k ≤ n ∧ i = .int .i64 (k : Int) ∧ t = .int .i64 (liveN (ps.take k) s : Int) ∧ w = wr) (fun _ i _ => n - (intOf i).toNat)
  case atStart => exact ⟨0, Nat.zero_le _, rfl, by simp [liveN], rfl⟩
  case round =>
    obtain ⟨k, hk, rfl, rfl, rfl⟩ := hrel
    by_cases hlt : k < n
    · obtain ⟨b, off, rfl, _, hb, hc⟩ := HX.out.2 (by omega)
      obtain ⟨c0, c1⟩ := pl_cells hc (Below.refl w.heap.size w) (show b < w.heap.size by omega) hlt
      have HS := hide (liveN_step (show k < ps.length by rw [HL.out]; exact hlt) s)
      have hle := liveN_le (ps.take k) s
      have hle2 : liveN (ps.take k) s ≤ 1048576 := by rw [List.length_take] at hle; omega
      clear hc c1 hle
      generalize liveN (ps.take k) s = q at *
      by_cases he : (plAt ps k).1 = s
      · have g : ((plAt ps k).1 == s) = true := by simpa using he
        have HE : Hid (liveN (ps.take (k + 1)) s = q + 1) := by show _ = _; rw [HS.out, g]; rfl
        generalize (plAt ps k).1 = v at *
        subst he
        go_wp2_with fail
        exact ⟨⟨k + 1, by omega, by go_num, by rw [HE.out]; go_num, trivial⟩, by simp [intOf]; omega⟩
      · have g : ((plAt ps k).1 == s) = false := by simpa using he
        have HE : Hid (liveN (ps.take (k + 1)) s = q) := by show _ = _; rw [HS.out, g]; rfl
        generalize (plAt ps k).1 = v at *
        go_wp2_with fail
        exact ⟨⟨k + 1, by omega, by go_num, by rw [HE.out], trivial⟩, by simp [intOf]; omega⟩
    · have HE : Hid (liveN (ps.take k) s = liveN ps s) := by show _ = _; rw [List.take_of_length_le (by rw [HL.out]; omega)]
      generalize liveN (ps.take k) s = q at *
      go_wp2_with fail
      go_ret
      exact ⟨by rw [← HE.out]; rfl, rfl⟩

theorem freeK_bound {z : Int} {qs : List Sq} (h : chipOk z qs = true) : ∀ k, k ≤ qs.length → 0 ≤ freeK z qs k ∧ freeK z qs k ≤ 8 * (k : Int)
  | 0, _ => by simp [freeK]
  | k + 1, hk => by
    have h1 := freeK_bound h k (by omega)
    have h2 := sqOk_parts (chipOk_at h (show k < qs.length by omega))
    have h3 := (chipOk_parts h).2.1
    rw [freeK_step (by omega)]
    split
    · omega
    · omega

end Go.Proofs.Ytocinobbocjikaa
end

section
namespace Go.Proofs.Ytocinobbocjikaa
open Go.RowKit
set_option linter.unusedVariables false
set_option maxRecDepth 20000

set_option maxHeartbeats 400000 in
theorem l1MaxW_any (x y : Int) (w : World) : Calls Try.prog 35 #[.int .i64 x, .int .i64 y] w fun e w' => e = .returned (.int .i64 (if y < x then x else y)) ∧ w = w' := by
  by_cases h : y < x
  · rw [if_pos h]
    have g : decide (x > y) = true := by simpa using h
    go_enter Try.func35, Try.ntmps35
    go_wp2_with fail
    go_ret
    exact ⟨rfl, rfl⟩
  · rw [if_neg h]
    have g : decide (x > y) = false := by simpa using h
    go_enter Try.func35, Try.ntmps35
    go_wp2_with fail
    go_ret
    exact ⟨rfl, rfl⟩

set_option maxHeartbeats 1600000 in
theorem specWorn_any (z : Int) (a : Option Addr) (n cap : Nat) (qs : List Sq) (w : World) {lo hi : Nat} (h : Squares lo hi w a n qs) (hhi : hi ≤ w.heap.size) (hn : n ≤ 1048576) (hf : ∀ x ∈ qs, sqFits x) :
    Calls Try.prog 12 #[.agg #[.int .i64 z, .slice a n cap]] w fun e w' => e = .returned (.tuple #[.int .i64 (worn z qs).1, .int .i64 (worn z qs).2]) ∧ Below w.heap.size w w' := by
  obtain ⟨wA, hwA⟩ : ∃ wA, wA = w.alloc (.cells #[.int .i64 z, .slice a n cap] 26) := ⟨_, rfl⟩
  have hzA : wA.heap.size = w.heap.size + 1 := by rw [hwA]; simp
  have HBA : Hid (Below w.heap.size w wA) := by rw [hwA]; exact (Below.refl _ _).alloc (Nat.le_refl _) _
  have H1 : Hid (wA.heap[w.heap.size]? = some (.cells #[.int .i64 z, .slice a n cap] 26)) := by rw [hwA]; exact heap_new _ _
  have HSQ := hide (h.later HBA.out hhi)
  have HL := hide h.1
  have HF := hide hf
  clear h hf
  obtain ⟨a0, a1⟩ := two_cells H1.out
  go_enter Try.func12, Try.ntmps12
  go_upto_region 1 with fail
  rw [← hwA]
  clear hwA
  go_wp2_with fail
  refine (specChipOk_any z a n cap qs wA HSQ.out (by omega) hn HF.out).mono ?_
  rintro e w1 ⟨rfl, b1⟩
  have K1 := hide (block_on H1.out b1)
  have HS1 := hide (HSQ.out.later b1 (by omega))
  have HB1 := hide (below_here HBA.out b1)
  have hs1 := b1.size
  clear b1 H1 HSQ HBA a0 a1
  cases hok : chipOk z qs with
  | false =>
    have HE : Hid (worn z qs = (-1, -1)) := by show _ = _; unfold worn; rw [hok]; rfl
    go_wp2_with fail
    go_ret2
    exact ⟨by rw [HE.out]; rfl, HB1.out⟩
  | true =>
    have HE : Hid (worn z qs = (leastK qs qs.length, mostK qs qs.length)) := by show _ = _; unfold worn; rw [hok]; rfl
    have hn12 : n ≤ 12 := by have := (chipOk_parts hok).2.2.2.1; rw [HL.out] at this; exact this
    clear hok
    go_wp2_with fail
    go_loopw [4, 5, 6] (fun l m i wr => ∃ k : Nat, k ≤ n ∧ i = .int .i64 (k : Int) ∧ l = .int .i64 (leastK qs k) ∧ m = .int .i64 (mostK qs k) ∧ Below w1.heap.size w1 wr) (fun _ _ i _ => n - (intOf i).toNat)
    case atStart => exact ⟨0, Nat.zero_le _, rfl, rfl, rfl, Below.refl _ _⟩
    case round =>
      obtain ⟨k, hk, rfl, rfl, rfl, hbel⟩ := hrel
      obtain ⟨a0, a1⟩ := two_cells (block_on K1.out hbel)
      have HBB := hide hbel
      by_cases hlt : k < n
      · have hql : k < qs.length := by rw [HL.out]; exact hlt
        obtain ⟨_, A, C, hx, ht⟩ := HS1.out
        obtain ⟨b, off, rfl, _, hb, hc⟩ := hx.2 (by omega)
        obtain ⟨c0, c1, c2⟩ := sq_cells hc hbel (show b < w1.heap.size by omega) hlt
        have HLS : Hid (leastK qs (k + 1) = if (sqAt qs k).2.2 then leastK qs k else if leastK qs k < 0 ∨ (sqAt qs k).2.1 < leastK qs k then (sqAt qs k).2.1 else leastK qs k) := rfl
        have HMS : Hid (mostK qs (k + 1) = if (sqAt qs k).2.2 then mostK qs k else if (sqAt qs k).2.1 < mostK qs k then mostK qs k else (sqAt qs k).2.1) := rfl
        clear hc hx ht hbel
        generalize leastK qs k = l at *
        generalize mostK qs k = m at *
        generalize sqAt qs k = y at *
        obtain ⟨ts, zw, bd⟩ := y
        dsimp only at c0 c1 c2 HLS HMS
        have HBV := hide ((Below.refl wr.heap.size wr).alloc (Nat.le_refl _) (.cells #[.slice (A k) ts.length (C k), .int .i64 zw, .bool bd] 40))
        have HBF := hide (below_here HBB.out HBV.out)
        cases bd with
        | true =>
          have HL2 : Hid (leastK qs (k + 1) = l) := HLS.out
          have HM2 : Hid (mostK qs (k + 1) = m) := HMS.out
          go_wp2_with fail
          exact ⟨⟨k + 1, by omega, by go_num, by rw [HL2.out], by rw [HM2.out], HBF.out⟩, by simp [intOf]; omega⟩
        | false =>
          have HM2 : Hid (mostK qs (k + 1) = if zw < m then m else zw) := HMS.out
          obtain ⟨m2, hm2⟩ : ∃ m2, m2 = (if zw < m then m else zw) := ⟨_, rfl⟩
          rw [← hm2] at HM2
          by_cases hl : l < 0
          · have HL2 : Hid (leastK qs (k + 1) = zw) := by show _ = _; rw [HLS.out]; simp [hl]
            go_wp2_with fail
            refine (l1MaxW_any m zw _).mono ?_
            rintro e w3 ⟨rfl, rfl⟩
            rw [← hm2]
            clear hm2
            go_wp2_with fail
            exact ⟨⟨k + 1, by omega, by go_num, by rw [HL2.out], by rw [HM2.out], HBF.out⟩, by simp [intOf]; omega⟩
          · by_cases hz : zw < l
            · have HL2 : Hid (leastK qs (k + 1) = zw) := by show _ = _; rw [HLS.out]; simp [hz]
              have g : decide (l < 0) = false := by simpa using hl
              go_wp2_with fail
              refine (l1MaxW_any m zw _).mono ?_
              rintro e w3 ⟨rfl, rfl⟩
              rw [← hm2]
              clear hm2
              go_wp2_with fail
              exact ⟨⟨k + 1, by omega, by go_num, by rw [HL2.out], by rw [HM2.out], HBF.out⟩, by simp [intOf]; omega⟩
            · have HL2 : Hid (leastK qs (k + 1) = l) := by show _ = _; rw [HLS.out]; simp [hl, hz]
              have g : decide (l < 0) = false := by simpa using hl
              have g2 : decide (zw < l) = false := by simpa using hz
              go_wp2_with fail
              refine (l1MaxW_any m zw _).mono ?_
              rintro e w3 ⟨rfl, rfl⟩
              rw [← hm2]
              clear hm2
              go_wp2_with fail
              exact ⟨⟨k + 1, by omega, by go_num, by rw [HL2.out], by rw [HM2.out], HBF.out⟩, by simp [intOf]; omega⟩
      · obtain rfl : k = n := by omega
        have HE2 : Hid (worn z qs = (leastK qs k, mostK qs k)) := by show _ = _; rw [HE.out, HL.out]
        generalize leastK qs k = l at *
        generalize mostK qs k = m at *
        go_wp2_with fail
        go_ret2
        exact ⟨by rw [HE2.out]; rfl, below_here HB1.out HBB.out⟩
end Go.Proofs.Ytocinobbocjikaa
end

section
namespace Go.Proofs.Ytocinobbocjikaa
open Go.RowKit
set_option linter.unusedVariables false
set_option maxRecDepth 20000

def valN (l : List Nat) : List Value := l.map (fun (i : Nat) => Value.int .i64 (i : Int))
theorem valN_length (l : List Nat) : (valN l).length = l.length := by unfold valN; simp
theorem valN_append (l m : List Nat) : valN (l ++ m) = valN l ++ valN m := by unfold valN; simp
theorem valN_at {l : List Nat} {j : Nat} (h : j < l.length) : (valN l)[j]? = some (.int .i64 ((l.getD j 0 : Nat) : Int)) := by
  unfold valN
  rw [List.getElem?_map, List.getElem?_eq_getElem h, List.getD_eq_getElem?_getD, List.getElem?_eq_getElem h]
  rfl
theorem valN_one (l : List Nat) : ∀ u ∈ valN l, u.oneCell' = true := by
  intro u hu
  unfold valN at hu
  rw [List.mem_map] at hu
  obtain ⟨i, _, rfl⟩ := hu
  rfl
theorem insW_split (qs : List Sq) (i : Nat) : ∀ (l : List Nat) (p : Nat), p ≤ l.length → (∀ x ∈ l.take p, (sqAt qs x).2.1 ≤ (sqAt qs i).2.1) → (p < l.length → ¬ (sqAt qs (l.getD p 0)).2.1 ≤ (sqAt qs i).2.1) → insW qs i l = l.take p ++ [i] ++ l.drop p
  | [], p, hp, _, _ => by simp at hp; subst hp; rfl
  | j :: js, 0, _, _, h => by
    have h1 := h (by simp)
    simp at h1
    unfold insW
    rw [if_neg (by omega)]
    rfl
  | j :: js, p + 1, hp, hl, h => by
    have h1 := hl j (by simp)
    unfold insW
    rw [if_pos h1, insW_split qs i js p (by simpa using hp) (fun x hx => hl x (by simp [hx])) (fun hlt => by
      have := h (by simpa using hlt)
      simpa [List.getD_cons_succ] using this)]
    rfl
/-- The first k of a row of one's own. -/
theorem own_prefix {w : World} {B e g n cap k : Nat} {xs : List Value} (h : w.ownsRow B e 1 (.slice (some ⟨g, 0, none⟩) n cap) n xs) (hk : k ≤ n) : w.ownsRow B e 1 (.slice (some ⟨g, 0, none⟩) k cap) k (xs.take k) := by
  obtain ⟨hl, h2⟩ := h
  rcases h2 with ⟨h', _⟩ | ⟨g', cap', cur, h', hb, hg, hnc, hcm, hcs, htake⟩
  · simp at h'
  · simp only [Value.slice.injEq, Option.some.injEq, Addr.mk.injEq, and_true, true_and] at h'
    obtain ⟨rfl, rfl⟩ := h'
    refine ⟨by rw [List.length_take]; omega, .inr ⟨g, cap, cur, rfl, hb, hg, by omega, hcm, hcs, ?_⟩⟩
    rw [← htake, List.take_take, Nat.mul_one, Nat.mul_one, Nat.min_eq_left hk]
theorem own_rest {w : World} {B e g n cap k : Nat} {xs : List Value} (h : w.ownsRow B e 1 (.slice (some ⟨g, 0, none⟩) n cap) n xs) {ad : Addr} (had : ad = ⟨g, 0 + k, none⟩ ∨ n - k = 0) (hk : k ≤ n) : ∀ j u, (xs.drop k)[j]? = some u → w.cell? (ad.add j) = some u := by
  intro j u hj
  have hx : xs.length = n := by have := h.1; omega
  have hjl : j < n - k := by
    rcases Nat.lt_or_ge j (n - k) with h' | h'
    · exact h'
    · rw [List.getElem?_eq_none (by rw [List.length_drop]; omega)] at hj; simp at hj
  rcases had with rfl | h0
  · have hadd : (⟨g, 0 + k, none⟩ : Addr).add j = ⟨g, k + j, none⟩ := by unfold Addr.add; split <;> simp_all
    rw [hadd, h.cellAt (k + j) (by omega), ← hj, List.getElem?_drop]
  · omega
theorem own_all {w : World} {B e g n cap : Nat} {xs : List Value} (h : w.ownsRow B e 1 (.slice (some ⟨g, 0, none⟩) n cap) n xs) : ∀ j u, xs[j]? = some u → w.cell? ((⟨g, 0, none⟩ : Addr).add j) = some u := by
  have := own_rest h (k := 0) (ad := ⟨g, 0 + 0, none⟩) (.inl rfl) (Nat.zero_le _)
  simpa using this
theorem slice_restW {P : Program} (t e : TypeId) (ht : P.underlying t = some (.slice e)) (hs : ∀ w, (sizeOf e).run P w = .ok 1 w) (b off n cap k : Nat) (hk : k ≤ n) (hn : n ≤ cap) :
    ∃ ad : Addr, (ad = ⟨b, off + k, none⟩ ∨ n - k = 0) ∧ ∀ w, (Instr.sliceAt t (.slice (some ⟨b, off, none⟩) n cap) (some (.int .i64 (k : Int))) none none).run P w = .ok (.slice (some ad) (n - k) (cap - k)) w := by
  have he : P.elem t = e := by simp [Program.elem, ht]
  have ht' : P.underlying t = some (.slice (P.elem t)) := by rw [he]; exact ht
  by_cases h : cap = k
  · refine ⟨⟨b, off, none⟩, .inr (by omega), fun w => ?_⟩
    rw [run_sliceAt_slice w t _ _ _ _ ht', run_slice_l (P := P) w t _ n cap ht' .i64 (k : Int) (by omega) (by omega), he, hs]
    simp [sliced, h, Result.andThen]
  · refine ⟨⟨b, off + k, none⟩, .inl rfl, fun w => ?_⟩
    rw [run_sliceAt_slice w t _ _ _ _ ht', run_slice_l (P := P) w t _ n cap ht' .i64 (k : Int) (by omega) (by omega), he, hs]
    simp [sliced, h, Result.andThen, Addr.add]
theorem slice_firstW {P : Program} (t e : TypeId) (ht : P.underlying t = some (.slice e)) (hs : ∀ w, (sizeOf e).run P w = .ok 1 w) (b off n cap k : Nat) (hk : k ≤ n) (hn : n ≤ cap) :
    ∀ w, (Instr.sliceAt t (.slice (some ⟨b, off, none⟩) n cap) none (some (.int .i64 (k : Int))) none).run P w = .ok (.slice (some ⟨b, off, none⟩) k cap) w := by
  intro w
  have he : P.elem t = e := by simp [Program.elem, ht]
  have ht' : P.underlying t = some (.slice (P.elem t)) := by rw [he]; exact ht
  rw [run_sliceAt_slice w t _ _ _ _ ht', run_slice_h (P := P) w t _ n cap ht' .i64 (k : Int) (by omega) (by omega), he, hs]
  simp [sliced, Result.andThen, Addr.add]
theorem some_form {w : World} {B e n : Nat} {v : Value} {xs : List Value} (h : w.ownsRow B e 1 v n xs) (hv : v ≠ .slice none 0 0) : ∃ g c, v = .slice (some ⟨g, 0, none⟩) n c ∧ n ≤ c := by
  rcases h.2 with ⟨e, _⟩ | ⟨g, cap, cur, e, _, _, hn, _⟩
  · exact absurd e hv
  · exact ⟨g, cap, e, hn⟩
theorem Try.infoI64e : (Try.prog.info? 2).map (fun i => (i.zero, i.size, i.bytes)) = some (some (.int .i64 0), 1, 8) := by kernel_rfl
theorem emptyK_no {qs : List Sq} {k : Nat} (h : isEmpty (sqAt qs k) = false) : emptyK qs (k + 1) = emptyK qs k := by
  show (if isEmpty (sqAt qs k) then _ else _) = _
  rw [h]; rfl
theorem emptyK_yes {qs : List Sq} {k : Nat} (h : isEmpty (sqAt qs k) = true) : emptyK qs (k + 1) = insW qs k (emptyK qs k) := by
  show (if isEmpty (sqAt qs k) then _ else _) = _
  rw [h]; rfl

set_option maxHeartbeats 3200000 in
theorem l9Empty_any (z : Int) (a : Option Addr) (n cap : Nat) (qs : List Sq) (w : World) {lo hi : Nat} (h : Squares lo hi w a n qs) (hhi : hi ≤ w.heap.size) (hn : n ≤ 12) (hf : ∀ x ∈ qs, sqFits x) :
    Calls Try.prog 37 #[.agg #[.int .i64 z, .slice a n cap]] w fun e w' => ∃ v, e = .returned v ∧ w'.ownsRow (w.heap.size + 1) 2 1 v (emptyK qs n).length (valN (emptyK qs n)) ∧ Below w.heap.size w w' := by
  obtain ⟨wB, hwB⟩ : ∃ wB, wB = w.alloc (.cells #[.int .i64 z, .slice a n cap] 26) := ⟨_, rfl⟩
  have hzB : wB.heap.size = w.heap.size + 1 := by rw [hwB]; simp
  have HBB0 : Hid (Below w.heap.size w wB) := by rw [hwB]; exact (Below.refl _ _).alloc (Nat.le_refl _) _
  have H1 : Hid (wB.heap[w.heap.size]? = some (.cells #[.int .i64 z, .slice a n cap] 26)) := by rw [hwB]; exact heap_new _ _
  obtain ⟨wA, hwA⟩ : ∃ wA, wA = wB.alloc (.cells #[] 2) := ⟨_, rfl⟩
  have hzA : wA.heap.size = w.heap.size + 1 + 1 := by rw [hwA]; simp [hzB]
  have HBA : Hid (Below w.heap.size w wA) := by rw [hwA]; exact HBB0.out.alloc (by omega) _
  have H1A : Hid (wA.heap[w.heap.size]? = some (.cells #[.int .i64 z, .slice a n cap] 26)) := by rw [hwA]; exact heap_old H1.out
  have HO0 : Hid (wA.ownsRow (w.heap.size + 1) 2 1 (.slice (some ⟨w.heap.size + 1, 0, none⟩) 0 0) 0 (valN [])) := by
    have := own_made0 wB 2
    rw [hzB] at this
    rw [hwA]
    exact this
  have HSQ := hide h
  have HL := hide h.1
  have HF := hide hf
  clear h hf H1 HBB0
  obtain ⟨i0, hi0, hzz0, hzz1, hzz2⟩ := info_parts Try.infoI64e
  go_enter Try.func37, Try.ntmps37
  go_upto_region 2 with fail
  rw [← hwB, ← hwA]
  clear hwA hwB
  go_wp2_with fail
  go_loopw [3, 4] (fun v i wr => ∃ k g c : Nat, k ≤ n ∧ i = .int .i64 (k : Int) ∧ v = .slice (some ⟨g, 0, none⟩) (emptyK qs k).length c ∧ (emptyK qs k).length ≤ c ∧ wr.ownsRow (w.heap.size + 1) 2 1 (.slice (some ⟨g, 0, none⟩) (emptyK qs k).length c) (emptyK qs k).length (valN (emptyK qs k)) ∧ wr.heap[w.heap.size]? = some (.cells #[.int .i64 z, .slice a n cap] 26) ∧ w.heap.size + 2 ≤ wr.heap.size ∧ Below w.heap.size w wr) (fun _ i _ => n - (intOf i).toNat)
  case atStart => exact ⟨0, w.heap.size + 1, 0, Nat.zero_le _, rfl, rfl, Nat.le_refl _, HO0.out, H1A.out, by omega, HBA.out⟩
  case round =>
    obtain ⟨k, g, c, hk, rfl, rfl, hlc, hown, hbox, hsz, hbel⟩ := hrel
    have HOW := hide hown
    have K1 := hide hbox
    have HBB := hide hbel
    obtain ⟨a0, a1⟩ := two_cells hbox
    clear HO0 H1A HBA hown hbox
    by_cases hlt : k < n
    · have hql : k < qs.length := by rw [HL.out]; exact hlt
      obtain ⟨_, A, C, hx, ht⟩ := HSQ.out
      obtain ⟨b, off, rfl, _, hb, hc⟩ := hx.2 (by omega)
      have HC := hide hc
      obtain ⟨c0, c1, c2⟩ := sq_cells hc hbel (show b < w.heap.size by omega) hlt
      have hl9 := (sq_fits HF.out hql).2.1
      unfold maxLen at hl9
      have hll := emptyK_length qs k
      have HMM := hide (fun x => (emptyK_mem qs k x).1)
      have HNO := hide (emptyK_no (qs := qs) (k := k))
      have HYE := hide (emptyK_yes (qs := qs) (k := k))
      have HIS := hide (insW_split qs k (emptyK qs k))
      have HIE : Hid (isEmpty (sqAt qs k) = (((sqAt qs k).1.length == 0) && !(sqAt qs k).2.2)) := rfl
      obtain ⟨y, hy⟩ : ∃ y, y = sqAt qs k := ⟨_, rfl⟩
      rw [← hy] at c0 c1 c2 hl9 HNO HYE HIE HIS
      have HY := hide hy
      clear hc hx ht hy hbel
      obtain ⟨ts, zw, bd⟩ := y
      dsimp only at c0 c1 c2 hl9 HIE HIS
      obtain ⟨out, ho⟩ : ∃ out, out = emptyK qs k := ⟨_, rfl⟩
      rw [← ho] at HOW hll HMM HNO HYE HIS hlc ⊢
      have HOE := hide ho
      clear ho
      obtain ⟨wV, hwV⟩ : ∃ wV, wV = wr.alloc (.cells #[.slice (A k) ts.length (C k), .int .i64 zw, .bool bd] 40) := ⟨_, rfl⟩
      have hzV : wr.heap.size + 1 = wV.heap.size := by rw [hwV]; simp
      have HBV : Hid (Below wr.heap.size wr wV) := by rw [hwV]; exact (Below.refl _ _).alloc (Nat.le_refl _) _
      have HV0 : Hid (wV.heap[wr.heap.size]? = some (.cells #[.slice (A k) ts.length (C k), .int .i64 zw, .bool bd] 40)) := by rw [hwV]; exact heap_new _ _
      have HOV := hide (HOW.out.kept (grown_below HBV.out none) (.inr (by simp [Value.ownBlock])))
      have KV := hide (block_on K1.out HBV.out)
      have HBF := hide (below_here HBB.out HBV.out)
      by_cases h0 : ts.length = 0
      · have hts : ts = [] := List.eq_nil_of_length_eq_zero h0
        subst hts
        simp only [List.length_nil] at c0 hwV HV0 HIE hl9
        clear h0
        cases bd with
        | true =>
          have HE : Hid (emptyK qs (k + 1) = out) := HNO.out (by rw [HIE.out]; simp)
          go_wp2_with fail
          rw [← hwV]
          exact ⟨⟨k + 1, g, c, by omega, by go_num, by rw [HE.out], by rw [HE.out]; exact hlc, by rw [HE.out]; exact HOV.out, KV.out, by omega, HBF.out⟩, by simp [intOf]; omega⟩
        | false =>
          have HE := hide (HYE.out (by rw [HIE.out]; simp))
          go_upto_region 7 with fail
          rw [← hwV]
          clear hwV a0 a1 c0 c1 c2
          go_wp2_with fail
          have hgl : g < wr.heap.size := (HOW.out.lt g rfl).2
          have hgv : g < wV.heap.size := by omega
          have hgB : w.heap.size + 1 ≤ g := (HOW.out.lt g rfl).1
          go_loopw [6] (fun t wx => ∃ p : Nat, p ≤ out.length ∧ t = .int .i64 (p : Int) ∧ (∀ x ∈ out.take p, (sqAt qs x).2.1 ≤ zw) ∧ Below wV.heap.size wV wx) (fun t _ => out.length - (intOf t).toNat)
          case atStart => exact ⟨0, Nat.zero_le _, rfl, by simp, Below.refl _ _⟩
          case round =>
            obtain ⟨p, hp, rfl, hal, hbx⟩ := hrel
            have HAL := hide hal
            have HBX := hide hbx
            have hsx := hbx.size
            have HOX := hide (HOV.out.kept (grown_below hbx none) (.inr (by simp [Value.ownBlock])))
            have KX := hide (block_on KV.out hbx)
            have HVX := hide (block_on HV0.out hbx)
            have HBWX := hide (below_here HBF.out hbx)
            obtain ⟨a0, a1⟩ := two_cells KX.out
            obtain ⟨s0, s1, s2⟩ := three_cells HVX.out
            clear hal hbx s0 s2
            have hpc : p ≤ c := by omega
            obtain ⟨cont, hcont⟩ : ∃ cont, cont = decide (p < out.length ∧ (sqAt qs (out.getD p 0)).2.1 ≤ zw) := ⟨_, rfl⟩
            have HCO := hide hcont
            clear hcont
            go_upto_region 8 with fail
            go_cut [46] (fun cc wy => cc = .bool cont ∧ Below wr.heap.size wr wy)
            case first =>
              by_cases hpl : p < out.length
              · have hg1 : decide ((p : Int) < (out.length : Int)) = true := by simp; omega
                have hxm : out.getD p 0 ∈ out := by rw [List.getD_eq_getElem?_getD, List.getElem?_eq_getElem hpl]; exact List.getElem_mem hpl
                have hxk := (HMM.out _ hxm).1
                have o1 : wr.cell? ⟨g, p, none⟩ = some (.int .i64 ((out.getD p 0 : Nat) : Int)) := by rw [HOX.out.cellAt p (by omega), valN_at hpl]
                obtain ⟨q0, q1, q2⟩ := sq_cells HC.out HBWX.out (show b < w.heap.size by omega) (show out.getD p 0 < n by omega)
                have hxn : ((out.getD p 0 : Nat) : Int) < (n : Int) := by omega
                clear q0 q2
                generalize out.getD p 0 = x at *
                by_cases hle : (sqAt qs x).2.1 ≤ zw
                · have hg2 : decide ((sqAt qs x).2.1 ≤ zw) = true := by simpa using hle
                  have hct : cont = true := by rw [HCO.out]; simp [hpl, hle]
                  subst hct
                  generalize (sqAt qs x).2.1 = zx at *
                  go_quiet (fail)
                  go_wp2_with fail
                  go_meet
                  exact ⟨rfl, ⟨rfl, rfl, rfl, Nat.le_refl _, fun _ _ => rfl⟩⟩
                · have hg2 : decide ((sqAt qs x).2.1 ≤ zw) = false := by simpa using hle
                  have hct : cont = false := by rw [HCO.out]; simp; intro _; omega
                  subst hct
                  generalize (sqAt qs x).2.1 = zx at *
                  go_quiet (fail)
                  go_wp2_with fail
                  go_meet
                  exact ⟨rfl, ⟨rfl, rfl, rfl, Nat.le_refl _, fun _ _ => rfl⟩⟩
              · have hg1 : decide ((p : Int) < (out.length : Int)) = false := by simp; omega
                have hct : cont = false := by rw [HCO.out]; simp; intro hh; exact absurd hh hpl
                subst hct
                go_quiet (fail)
                go_wp2_with fail
                go_meet
                exact ⟨rfl, ⟨rfl, rfl, rfl, Nat.le_refl _, fun _ _ => rfl⟩⟩
            case rest =>
              obtain ⟨rfl, hby⟩ := hcut
              obtain ⟨wE, hwE⟩ : ∃ wE, wE = wc := ⟨_, rfl⟩
              subst hwE
              have HBE := hide (below_here HBX.out hby)
              have HOE2 := hide (HOX.out.kept (grown_below hby none) (.inr (by simp [Value.ownBlock])))
              have KE := hide (block_on KX.out hby)
              have HBWE := hide (below_here HBWX.out hby)
              have hsE := hby.size
              clear hby a0 a1 s1 HOX KX HVX HBX HBWX
              cases cont with
              | true =>
                have h9 := HCO.out
                simp only [Bool.true_eq, decide_eq_true_eq] at h9
                obtain ⟨hpl, hle⟩ := h9
                have HAL2 : Hid (∀ x ∈ out.take (p + 1), (sqAt qs x).2.1 ≤ zw) := by
                  intro x hx
                  rw [List.take_succ_eq_append_getElem hpl, List.mem_append, List.mem_singleton] at hx
                  rcases hx with hx | hx
                  · exact HAL.out x hx
                  · rw [hx]
                    rw [List.getD_eq_getElem?_getD, List.getElem?_eq_getElem hpl] at hle
                    exact hle
                clear hle
                go_wp2_with fail
                exact ⟨⟨p + 1, by omega, by go_num, HAL2.out, HBE.out⟩, by simp [intOf]; omega⟩
              | false =>
                have HNC : Hid (p < out.length → zw < (sqAt qs (out.getD p 0)).2.1) := by
                  intro hpl
                  refine Int.not_le.1 fun hle => ?_
                  have h9 := HCO.out
                  simp only [Bool.false_eq, decide_eq_false_iff_not] at h9
                  exact h9 ⟨hpl, hle⟩
                have HIN := hide (HE.out.trans (HIS.out p hp HAL.out HNC.out))
                have hLN : (emptyK qs (k + 1)).length = out.length + 1 := by rw [HE.out, insW_length]
                have HLN := hide hLN
                clear hLN
                obtain ⟨ad, had, hsl⟩ := slice_restW (P := Try.prog) 32 2 Try.underlying32 (fun _ => by kernel_rfl) g 0 out.length c p hp hlc
                have hsf := slice_firstW (P := Try.prog) 32 2 Try.underlying32 (fun _ => by kernel_rfl) g 0 out.length c p hp hlc
                have hgE : g < wE.heap.size := by omega
                have HM0 : Hid ((wE.alloc (.cells #[] 2)).ownsRow (w.heap.size + 1) 2 1 (.slice (some ⟨wE.heap.size, 0, none⟩) 0 0) 0 []) := (own_made0 wE 2).mono (by omega)
                have HBM := hide ((Below.refl wE.heap.size wE).alloc (Nat.le_refl _) (.cells #[] 2))
                have hzM : wE.heap.size + 1 = (wE.alloc (.cells #[] 2)).heap.size := by simp
                have HOM := hide (HOE2.out.alloc (.cells #[] 2))
                have HNW : Hid (∀ j u, (valN (out.drop p))[j]? = some u → (wE.alloc (.cells #[] 2)).cell? (ad.add j) = some u) := by
                  have h9 := own_rest HOM.out had hp
                  have e9 : (valN out).drop p = valN (out.drop p) := by unfold valN; rw [List.map_drop]
                  rw [e9] at h9
                  exact h9
                have KM := hide (block_on KE.out HBM.out)
                have hldp : (valN (out.drop p)).length = (out.length - p) * 1 := by rw [valN_length, List.length_drop]; omega
                have hbM : w.heap.size + 1 ≤ (wE.alloc (.cells #[] 2)).heap.size := by have := HBM.out.size; omega
                clear hzM
                go_upto_region 11 with (at_builtin; (refine wpList_append_own_at _ rfl (.tmp 49) (.tmp 52) 32 rfl (w.heap.size + 1) 2 i0 (.int .i64 0) 1 8 Try.underlying32 hi0 hzz0 hzz1 hzz2 rfl (by decide) _ 0 [] rfl HM0.out ad (out.length - p) (c - p) (valN (out.drop p)) rfl hldp HNW.out (valN_one _) (by unfold maxLen; omega) (by omega) hbM ?_); intro v1 w4 hown4 hgr4 hnil4 hat4; obtain ⟨g1, c1, rfl, hc1⟩ := some_form hown4 (fun e => by have h9 := (hnil4.1 e).1; cases h9); have HO4 := hide hown4; have HG4 := hide hgr4; have HA4 := hide hat4; clear hown4 hgr4 hnil4 hat4)
                have hs4 : wE.heap.size + 1 ≤ w4.heap.size := by have := HG4.out.size; simpa using this
                have hg1 : wE.heap.size ≤ g1 := by
                  rcases HA4.out with h9 | h9
                  · have e9 : some g1 = some wE.heap.size := h9
                    simp only [Option.some.injEq] at e9; omega
                  · have e9 : some g1 = some (wE.alloc (.cells #[] 2)).heap.size := h9
                    simp at e9; omega
                have HOW4 := hide (HOM.out.kept HG4.out (.inr (by intro e; have e9 : some g = some wE.heap.size := e; simp only [Option.some.injEq] at e9; omega)))
                have K4 : Hid (w4.heap[w.heap.size]? = some (.cells #[.int .i64 z, .slice (some ⟨b, off, none⟩) n cap] 26)) := (HG4.out.block _ (by simp; omega) (by intro e; have e9 : some w.heap.size = some wE.heap.size := e; simp only [Option.some.injEq] at e9; omega)).trans KM.out
                have HB4 := hide ((below_here HBWE.out HBM.out).grown HG4.out (by simp; omega) (by intro q hq; have e9 : some wE.heap.size = some q := hq; simp only [Option.some.injEq] at e9; omega))
                have HOP := hide ((own_prefix HOW4.out hp).alloc (.cells #[.int .i64 (k : Int)] 2))
                have HRO := hide (HO4.out.alloc (.cells #[.int .i64 (k : Int)] 2))
                have e9 : (valN out).take p = valN (out.take p) := by unfold valN; rw [List.map_take]
                rw [e9] at HOP
                have hb5 : w.heap.size + 1 ≤ (w4.alloc (.cells #[.int .i64 (k : Int)] 2)).heap.size := by have := ((Below.refl w4.heap.size w4).alloc (Nat.le_refl _) (.cells #[.int .i64 (k : Int)] 2)).size; omega
                clear e9 HNW HM0 HOM KM HBM hsl had hldp
                go_wp2_with (at_builtin; (first
                  | ((refine wpList_append_own_at _ rfl (.tmp 56) (.tmp 58) 32 rfl (w.heap.size + 1) 2 i0 (.int .i64 0) 1 8 Try.underlying32 hi0 hzz0 hzz1 hzz2 rfl (by decide) _ p (valN (out.take p)) rfl HOP.out ⟨w4.heap.size, 0, none⟩ 1 1 [.int .i64 (k : Int)] rfl rfl (cell_one_new _ _ _) (by simp [Value.oneCell']) (by unfold maxLen; omega) (by omega) hb5 ?_); intro v2 w6 hown6 hgr6 hnil6 hat6; obtain ⟨g2, c2, rfl, hc2⟩ := some_form hown6 (fun e => by have h9 := (hnil6.1 e).1; cases h9); have HO6 := hide hown6; have HG6 := hide hgr6; have HR6 := hide (HRO.out.kept hgr6 (.inr (by intro e; have e9 : some g1 = some g := e; simp only [Option.some.injEq] at e9; omega))); have HR7 : Hid (∀ j u, (valN (out.drop p))[j]? = some u → w6.cell? ((⟨g1, 0, none⟩ : Addr).add j) = some u) := own_all HR6.out; clear hown6 hgr6 hnil6 hat6)
                  | ((refine wpList_append_own_at _ rfl (.tmp 59) (.tmp 60) 32 rfl (w.heap.size + 1) 2 i0 (.int .i64 0) 1 8 Try.underlying32 hi0 hzz0 hzz1 hzz2 rfl (by decide) _ (p + 1) _ rfl HO6.out ⟨g1, 0, none⟩ (out.length - p) c1 (valN (out.drop p)) rfl (by rw [valN_length, List.length_drop]; omega) (HR7.out) (valN_one _) (by unfold maxLen; omega) (by omega) (Nat.le_trans hb5 HG6.out.size) ?_); intro v3 w7 hown7 hgr7 hnil7 hat7; have HO7 := hide hown7; have HG7 := hide hgr7; have HP7 := hide (some_form hown7 (fun e => by have h9 := (hnil7.1 e).1; cases h9)); clear hown7 hgr7 hnil7 hat7)))
                obtain ⟨g3, c3, hv3, hc3⟩ := HP7.out
                subst hv3
                have HEV : Hid ((valN (out.take p) ++ [Value.int .i64 (k : Int)]) ++ valN (out.drop p) = valN (emptyK qs (k + 1))) := by
                  show _ = _
                  rw [HIN.out, valN_append, valN_append]; rfl
                have hlnn : (emptyK qs (k + 1)).length = p + 1 + (out.length - p) := by rw [HLN.out]; omega
                have hg2B : w.heap.size + 1 ≤ g2 := (HO6.out.lt g2 rfl).1
                have hs6 : w4.heap.size + 1 ≤ w6.heap.size := by have := HG6.out.size; simpa using this
                have hs7 := HG7.out.size
                have K5 := hide (heap_old (o := .cells #[.int .i64 (k : Int)] 2) K4.out)
                have K6 : Hid (w6.heap[w.heap.size]? = some (.cells #[.int .i64 z, .slice (some ⟨b, off, none⟩) n cap] 26)) := (HG6.out.block _ (by simp; omega) (by intro e; have e9 : some w.heap.size = some g := e; simp only [Option.some.injEq] at e9; omega)).trans K5.out
                have K7 : Hid (w7.heap[w.heap.size]? = some (.cells #[.int .i64 z, .slice (some ⟨b, off, none⟩) n cap] 26)) := (HG7.out.block _ (by omega) (by intro e; have e9 : some w.heap.size = some g2 := e; simp only [Option.some.injEq] at e9; omega)).trans K6.out
                have B5 := hide (HB4.out.alloc (by omega) (.cells #[.int .i64 (k : Int)] 2))
                have B6 := hide (B5.out.grown HG6.out (by simp; omega) (by intro q hq; have e9 : some g = some q := hq; simp only [Option.some.injEq] at e9; omega))
                have B7 := hide (B6.out.grown HG7.out (by omega) (by intro q hq; have e9 : some g2 = some q := hq; simp only [Option.some.injEq] at e9; omega))
                have HO8 : Hid (w7.ownsRow (w.heap.size + 1) 2 1 (.slice (some ⟨g3, 0, none⟩) (emptyK qs (k + 1)).length c3) (emptyK qs (k + 1)).length (valN (emptyK qs (k + 1)))) := by
                  show World.ownsRow _ _ _ _ _ _ _
                  rw [← HEV.out, hlnn]
                  exact HO7.out
                exact ⟨⟨k + 1, g3, c3, by omega, by go_num, by rw [hlnn], by rw [hlnn]; exact hc3, HO8.out, K7.out, by omega, B7.out⟩, by simp [intOf]; omega⟩
      · have g0 : decide ((ts.length : Int) > 0) = true := by simp; omega
        have HE : Hid (emptyK qs (k + 1) = out) := HNO.out (by rw [HIE.out]; simp [h0])
        go_wp2_with fail
        rw [← hwV]
        exact ⟨⟨k + 1, g, c, by omega, by go_num, by rw [HE.out], by rw [HE.out]; exact hlc, by rw [HE.out]; exact HOV.out, KV.out, by omega, HBF.out⟩, by simp [intOf]; omega⟩
    · obtain rfl : k = n := by omega
      go_wp2_with fail
      go_ret
      exact ⟨_, rfl, HOW.out, HBB.out⟩
end Go.Proofs.Ytocinobbocjikaa
end

section
namespace Go.Proofs.Ytocinobbocjikaa
open Go.RowKit
set_option linter.unusedVariables false
set_option maxRecDepth 20000

theorem valN_ints (l : List Nat) : valN l = (l.map (fun (i : Nat) => (i : Int))).map (Value.int .i64) := by
  unfold valN; rw [List.map_map]; rfl
theorem own_valN {w : World} {base n : Nat} {v : Value} {l : List Nat} (h : w.ownsRow base 2 1 v n (valN l)) :
    ∃ a cap, v = .slice a n cap ∧ n ≤ cap ∧ OwnInts base w.heap.size w a n (l.map (fun (i : Nat) => (i : Int))) := by
  obtain ⟨a, cap, e, hc, hl, _, ho⟩ := owned_of_own h
  rw [valN_length] at hl
  refine ⟨a, cap, e, hc, by rw [List.length_map]; exact hl, ho.congr fun i hi => ?_⟩
  rw [valN_ints]
  exact map_cell _ i (by rw [List.length_map]; omega)

set_option maxHeartbeats 1600000 in
theorem specEmpty_any (z : Int) (a : Option Addr) (n cap : Nat) (qs : List Sq) (w : World) {lo hi : Nat} (h : Squares lo hi w a n qs) (hhi : hi ≤ w.heap.size) (hn : n ≤ 1048576) (hf : ∀ x ∈ qs, sqFits x) :
    Calls Try.prog 15 #[.agg #[.int .i64 z, .slice a n cap]] w fun e w' => ∃ a' n' cap', e = .returned (.slice a' n' cap') ∧ n' ≤ cap' ∧ n' ≤ 12 ∧ OwnInts w.heap.size w'.heap.size w' a' n' (emptyL z qs) ∧ Below w.heap.size w w' := by
  obtain ⟨wA, hwA⟩ : ∃ wA, wA = w.alloc (.cells #[.int .i64 z, .slice a n cap] 26) := ⟨_, rfl⟩
  have hzA : wA.heap.size = w.heap.size + 1 := by rw [hwA]; simp
  have HBA : Hid (Below w.heap.size w wA) := by rw [hwA]; exact (Below.refl _ _).alloc (Nat.le_refl _) _
  have H1 : Hid (wA.heap[w.heap.size]? = some (.cells #[.int .i64 z, .slice a n cap] 26)) := by rw [hwA]; exact heap_new _ _
  have HSQ := hide (h.later HBA.out hhi)
  have HL := hide h.1
  have HF := hide hf
  clear h hf
  obtain ⟨a0, a1⟩ := two_cells H1.out
  go_enter Try.func15, Try.ntmps15
  go_upto_region 1 with fail
  rw [← hwA]
  clear hwA
  go_wp2_with fail
  refine (specChipOk_any z a n cap qs wA HSQ.out (by omega) hn HF.out).mono ?_
  rintro e w1 ⟨rfl, b1⟩
  have K1 := hide (block_on H1.out b1)
  have HS1 := hide (HSQ.out.later b1 (by omega))
  have HB1 := hide (below_here HBA.out b1)
  have hs1 := b1.size
  clear b1 H1 HSQ HBA a0 a1
  obtain ⟨a0, a1⟩ := two_cells K1.out
  cases hok : chipOk z qs with
  | false =>
    have HE : Hid (emptyL z qs = []) := by show _ = _; unfold emptyL; rw [hok]; rfl
    have HM := hide (own_made0 w1 2)
    have HB2 := hide (HB1.out.alloc (by omega) (.cells #[] 2))
    go_wp2_with fail
    go_ret
    exact ⟨_, _, _, rfl, Nat.le_refl _, by omega, by rw [HE.out]; exact ⟨rfl, Nat.le_refl _, fun h => absurd h (Nat.lt_irrefl _)⟩, HB2.out⟩
  | true =>
    have HE : Hid (emptyL z qs = (emptyK qs qs.length).map (fun (i : Nat) => (i : Int))) := by show _ = _; unfold emptyL; rw [hok]; rfl
    have hn12 : n ≤ 12 := by have := (chipOk_parts hok).2.2.2.1; rw [HL.out] at this; exact this
    clear hok
    go_wp2_with fail
    refine (l9Empty_any z a n cap qs w1 HS1.out (by omega) hn12 HF.out).mono ?_
    rintro e w2 ⟨v, rfl, hown, b2⟩
    have hle := emptyK_length qs n
    obtain ⟨a', cap', rfl, hc', ho⟩ := own_valN hown
    have HO := hide ho
    have HB2 := hide (below_here HB1.out b2)
    clear ho hown b2
    go_wp2_with fail
    go_ret
    refine ⟨_, _, _, rfl, hc', by omega, ?_, HB2.out⟩
    rw [HE.out, HL.out]
    exact ⟨HO.out.1, HO.out.2.1, fun h => by obtain ⟨b, off, h1, h2, h3, h4⟩ := HO.out.2.2 h; exact ⟨b, off, h1, by omega, h3, h4⟩⟩
end Go.Proofs.Ytocinobbocjikaa
end

section
namespace Go.Proofs.Ytocinobbocjikaa
open Go.RowKit
set_option linter.unusedVariables false
set_option maxRecDepth 20000

theorem leastK_ge {z : Int} {qs : List Sq} (h : chipOk z qs = true) : ∀ k, k ≤ qs.length → -1 ≤ leastK qs k
  | 0, _ => by simp [leastK]
  | k + 1, hk => by
    have h1 := leastK_ge h k (by omega)
    have h2 := sqOk_parts (chipOk_at h (show k < qs.length by omega))
    unfold leastK
    split
    · exact h1
    · split
      · have := h2.2.1; omega
      · exact h1

set_option maxHeartbeats 1600000 in
theorem implWorn_any (z : Int) (a : Option Addr) (n cap : Nat) (qs : List Sq) (w : World) {lo hi : Nat} (h : Squares lo hi w a n qs) (hhi : hi ≤ w.heap.size) (hn : n ≤ 1048576) (hf : ∀ x ∈ qs, sqFits x) :
    Calls Try.prog 11 #[.agg #[.int .i64 z, .slice a n cap]] w fun e w' => e = .returned (.tuple #[.int .i64 (worn z qs).1, .int .i64 (worn z qs).2]) ∧ Below w.heap.size w w' := by
  obtain ⟨wA, hwA⟩ : ∃ wA, wA = w.alloc (.cells #[.int .i64 z, .slice a n cap] 26) := ⟨_, rfl⟩
  have hzA : wA.heap.size = w.heap.size + 1 := by rw [hwA]; simp
  have HBA : Hid (Below w.heap.size w wA) := by rw [hwA]; exact (Below.refl _ _).alloc (Nat.le_refl _) _
  have H1 : Hid (wA.heap[w.heap.size]? = some (.cells #[.int .i64 z, .slice a n cap] 26)) := by rw [hwA]; exact heap_new _ _
  have HSQ := hide (h.later HBA.out hhi)
  have HL := hide h.1
  have HF := hide hf
  clear h hf
  obtain ⟨a0, a1⟩ := two_cells H1.out
  go_enter Try.func11, Try.ntmps11
  go_wp2_with fail
  rw [← hwA]
  clear hwA
  refine (implChipOk_any z a n cap qs wA HSQ.out (by omega) hn HF.out).mono ?_
  rintro e w1 ⟨rfl, b1⟩
  have K1 := hide (block_on H1.out b1)
  have HS1 := hide (HSQ.out.later b1 (by omega))
  have HB1 := hide (below_here HBA.out b1)
  have hs1 := b1.size
  clear b1 H1 HSQ HBA a0 a1
  obtain ⟨a0, a1⟩ := two_cells K1.out
  cases hok : chipOk z qs with
  | false =>
    have HE : Hid (worn z qs = (-1, -1)) := by show _ = _; unfold worn; rw [hok]; rfl
    go_wp2_with fail
    go_ret2
    exact ⟨by rw [HE.out]; rfl, HB1.out⟩
  | true =>
    have HE : Hid (worn z qs = (leastK qs qs.length, mostK qs qs.length)) := by show _ = _; unfold worn; rw [hok]; rfl
    have hn12 : n ≤ 12 := by have := (chipOk_parts hok).2.2.2.1; rw [HL.out] at this; exact this
    have HGE := hide (leastK_ge hok)
    clear hok
    go_wp2_with fail
    go_loopw [4, 5, 14] (fun l m i wr => ∃ k : Nat, k ≤ n ∧ i = .int .i64 (k : Int) ∧ l = .int .i64 (leastK qs k) ∧ m = .int .i64 (mostK qs k) ∧ Below w1.heap.size w1 wr) (fun _ _ i _ => n - (intOf i).toNat)
    case atStart => exact ⟨0, Nat.zero_le _, rfl, rfl, rfl, Below.refl _ _⟩
    case round =>
      obtain ⟨k, hk, rfl, rfl, rfl, hbel⟩ := hrel
      have HBB := hide hbel
      by_cases hlt : k < n
      · have hql : k < qs.length := by rw [HL.out]; exact hlt
        obtain ⟨_, A, C, hx, ht⟩ := HS1.out
        obtain ⟨b, off, rfl, _, hb, hc⟩ := hx.2 (by omega)
        obtain ⟨c0, c1, c2⟩ := sq_cells hc hbel (show b < w1.heap.size by omega) hlt
        have hge := HGE.out k (by omega)
        have HLS : Hid (leastK qs (k + 1) = if (sqAt qs k).2.2 then leastK qs k else if leastK qs k < 0 ∨ (sqAt qs k).2.1 < leastK qs k then (sqAt qs k).2.1 else leastK qs k) := rfl
        have HMS : Hid (mostK qs (k + 1) = if (sqAt qs k).2.2 then mostK qs k else if (sqAt qs k).2.1 < mostK qs k then mostK qs k else (sqAt qs k).2.1) := rfl
        clear hc hx ht hbel
        generalize leastK qs k = l at *
        generalize mostK qs k = m at *
        generalize sqAt qs k = y at *
        obtain ⟨ts, zw, bd⟩ := y
        dsimp only at c0 c1 c2 HLS HMS
        have HBV := hide ((Below.refl wr.heap.size wr).alloc (Nat.le_refl _) (.cells #[.slice (A k) ts.length (C k), .int .i64 zw, .bool bd] 40))
        have HBF := hide (below_here HBB.out HBV.out)
        cases bd with
        | true =>
          have HL2 : Hid (leastK qs (k + 1) = l) := HLS.out
          have HM2 : Hid (mostK qs (k + 1) = m) := HMS.out
          go_wp2_with fail
          exact ⟨⟨k + 1, by omega, by go_num, by rw [HL2.out], by rw [HM2.out], HBF.out⟩, by simp [intOf]; omega⟩
        | false =>
          have HM2 : Hid (mostK qs (k + 1) = if zw < m then m else zw) := HMS.out
          have HMX : Hid ((if m < zw then zw else m) = mostK qs (k + 1)) := by show _ = _; rw [HM2.out]; split <;> split <;> omega
          by_cases hl : l = -1
          · subst hl
            have HL2 : Hid (leastK qs (k + 1) = zw) := by show _ = _; rw [HLS.out]; simp only [Bool.false_eq_true, if_false]; rw [if_pos (by omega)]
            go_wp2_with fail
            exact ⟨⟨k + 1, by omega, by go_num, by rw [HL2.out], by rw [← HMX.out], HBF.out⟩, by simp [intOf]; omega⟩
          · have hl0 : ¬ l < 0 := by omega
            by_cases hz : zw < l
            · have HL2 : Hid (leastK qs (k + 1) = zw) := by show _ = _; rw [HLS.out]; simp [hz]
              clear hge hl0
              go_wp2_with fail
              exact ⟨⟨k + 1, by omega, by go_num, by rw [HL2.out], by rw [← HMX.out], HBF.out⟩, by simp [intOf]; omega⟩
            · have HL2 : Hid (leastK qs (k + 1) = l) := by show _ = _; rw [HLS.out]; simp [hl0, hz]
              have g2 : decide (zw < l) = false := by simpa using hz
              clear hge hl0
              go_wp2_with fail
              exact ⟨⟨k + 1, by omega, by go_num, by rw [HL2.out], by rw [← HMX.out], HBF.out⟩, by simp [intOf]; omega⟩
      · obtain rfl : k = n := by omega
        have HE2 : Hid (worn z qs = (leastK qs k, mostK qs k)) := by show _ = _; rw [HE.out, HL.out]
        generalize leastK qs k = l at *
        generalize mostK qs k = m at *
        go_wp2_with fail
        go_ret2
        exact ⟨by rw [HE2.out]; rfl, below_here HB1.out HBB.out⟩
end Go.Proofs.Ytocinobbocjikaa
end

