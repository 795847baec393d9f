/- Several texts in one: WearLaw, PlaceOwn, PlaceApp, ChipDoS, WearSpecA, WearSpecC. -/
import Derived.Test.YtocinobbocjikaaGreatDoorRChipGrow
import Derived.Test.YtocinobbocjikaaGreatDoorRChipOwn2
import Derived.Deep.RegionLaw
import Derived.Deep.AppendLies
import Derived.Deep.QuietTactic
import Derived.BigQuiet
import Derived.Test.YtocinobbocjikaaGreatDoorRChipOkS
import Derived.Lib.QuietBelow
import Derived.Deep.RegionWith
import Derived.Deep.DeepCutAuto
import Derived.Laws.StructEq
section
namespace Go.Proofs.YtocinobbocjikaaGreatDoor
open Go.RowKit
set_option linter.unusedVariables false

theorem nodup_lt : ∀ (L : Nat) (l : List Nat), l.Nodup → (∀ x ∈ l, x < L) → l.length ≤ L
  | 0, l, _, h => by
    cases l with
    | nil => exact Nat.le_refl _
    | cons x xs => exact absurd (h x (by simp)) (by omega)
  | L + 1, l, hn, h => by
    by_cases hm : L ∈ l
    · have h1 := nodup_lt L (l.erase L) (hn.erase L) (fun x hx => by
        rw [hn.mem_erase_iff] at hx
        have := h x hx.2
        have := hx.1
        omega)
      rw [List.length_erase_of_mem hm] at h1
      omega
    · have h1 := nodup_lt L l hn (fun x hx => by
        have := h x hx
        by_cases e : x = L
        · subst e; exact absurd hx hm
        · omega)
      omega
/-- The pages of a map that lie in Square b, among the first k. -/
def pagesK (ps : List Pl) (b : Int) (k : Nat) : List Nat := ((ps.take k).filter (fun p => p.1 == b)).map (fun p => p.2.toNat)
theorem take_mem {ps : List Pl} {k : Nat} {x : Pl} (h : x ∈ ps.take k) : ∃ j, j < k ∧ j < ps.length ∧ plAt ps j = x := by
  obtain ⟨j, hj, e⟩ := List.getElem_of_mem h
  rw [List.length_take] at hj
  refine ⟨j, by omega, by omega, ?_⟩
  rw [List.getElem_take] at e
  unfold plAt
  rw [List.getD_eq_getElem?_getD, List.getElem?_eq_getElem (by omega)]
  exact e
theorem plOk_at {z : Int} {qs : List Sq} {ps : List Pl} (h : mapOk z qs ps = true) {i : Nat} (hi : i < ps.length) : plOk qs ps i = true := by
  unfold mapOk at h
  simp only [Bool.and_eq_true] at h
  exact List.all_eq_true.1 h.2.2.2 i (List.mem_range.2 hi)
theorem plOk_page {qs : List Sq} {ps : List Pl} {i b : Nat} (h : plOk qs ps i = true) (hb : (plAt ps i).1 = (b : Int)) : 0 ≤ (plAt ps i).2 ∧ (plAt ps i).2 < ((sqAt qs b).1.length : Int) ∧ ∀ k, k < i → plAt ps k ≠ plAt ps i := by
  unfold plOk at h
  rw [Bool.or_eq_true] at h
  rcases h with h | h
  · have e : plAt ps i = (-1, 0) := by simpa using h
    rw [e] at hb
    have : (-1 : Int) = (b : Int) := hb
    omega
  · rw [Bool.and_eq_true] at h
    obtain ⟨h1, h2⟩ := h
    unfold plThere inB at h1
    simp only [Bool.and_eq_true, decide_eq_true_eq] at h1
    rw [hb, Int.toNat_natCast] at h1
    refine ⟨h1.2.1, by omega, fun k hk e => ?_⟩
    have := List.all_eq_true.1 h2 k (List.mem_range.2 hk)
    simp [e] at this
theorem pagesK_ok {z : Int} {qs : List Sq} {ps : List Pl} (h : mapOk z qs ps = true) (b : Nat) : ∀ k, k ≤ ps.length → (pagesK ps (b : Int) k).Nodup ∧ ∀ x ∈ pagesK ps (b : Int) k, x < (sqAt qs b).1.length
  | 0, _ => by unfold pagesK; simp
  | k + 1, hk => by
    have ih := pagesK_ok h b k (by omega)
    have hkl : k < ps.length := by omega
    have hok := plOk_at h hkl
    have hst : pagesK ps (b : Int) (k + 1) = pagesK ps (b : Int) k ++ (if (plAt ps k).1 == (b : Int) then [(plAt ps k).2.toNat] else []) := by
      unfold pagesK plAt
      rw [List.take_succ_eq_append_getElem hkl, List.filter_append, List.map_append, List.getD_eq_getElem?_getD, List.getElem?_eq_getElem hkl]
      simp only [Option.getD_some, List.filter_cons, List.filter_nil]
      split <;> simp
    by_cases hb : (plAt ps k).1 = (b : Int)
    · have hpg := plOk_page hok hb
      have hbb : ((plAt ps k).1 == (b : Int)) = true := by simpa using hb
      rw [hst, hbb, if_pos rfl]
      refine ⟨?_, fun x hx => ?_⟩
      · rw [List.nodup_append]
        refine ⟨ih.1, List.pairwise_singleton _ _, fun x hx y hy => ?_⟩
        rw [List.mem_singleton] at hy
        subst hy
        intro e
        unfold pagesK at hx
        rw [List.mem_map] at hx
        obtain ⟨u, hu, hu2⟩ := hx
        rw [List.mem_filter] at hu
        obtain ⟨j, hj1, hj2, hj3⟩ := take_mem hu.1
        have hu1 : u.1 = (b : Int) := by simpa using hu.2
        have hpj := plOk_page (plOk_at h hj2) (show (plAt ps j).1 = (b : Int) by rw [hj3]; exact hu1)
        rw [hj3] at hpj
        refine hpg.2.2 j hj1 ?_
        rw [hj3]
        have e2 : u.2 = (plAt ps k).2 := by omega
        have e1 : u.1 = (plAt ps k).1 := by rw [hu1, hb]
        exact Prod.ext e1 e2
      · rw [List.mem_append, List.mem_singleton] at hx
        rcases hx with hx | rfl
        · exact ih.2 x hx
        · omega
    · have hbb : ((plAt ps k).1 == (b : Int)) = false := by simpa using hb
      rw [hst, hbb]
      simpa using ih
/-- No more are Live in a Square than it has pages. -/
theorem live_le {z : Int} {qs : List Sq} {ps : List Pl} (h : mapOk z qs ps = true) (b : Nat) : liveN ps (b : Int) ≤ (sqAt qs b).1.length := by
  have h1 := pagesK_ok h b ps.length (Nat.le_refl _)
  have h2 := nodup_lt _ _ h1.1 h1.2
  unfold pagesK at h2
  rw [List.take_of_length_le (Nat.le_refl _), List.length_map] at h2
  exact h2
theorem leastK_le {z : Int} {qs : List Sq} (h : chipOk z qs = true) : ∀ k, k ≤ qs.length → ∀ j, j < k → (sqAt qs j).2.2 = false → 0 ≤ leastK qs k ∧ leastK qs k ≤ (sqAt qs j).2.1
  | 0, _, j, hj, _ => absurd hj (by omega)
  | k + 1, hk, j, hj, hb => by
    have hw := (sqOk_parts (chipOk_at h (show k < qs.length by omega))).2.1
    unfold leastK
    by_cases e : j = k
    · subst e
      rw [hb]
      simp only [Bool.false_eq_true, if_false]
      split
      · omega
      · omega
    · have ih := leastK_le h k (by omega) j (by omega) hb
      split
      · exact ih
      · split
        · omega
        · exact ih
theorem mostK_ge {qs : List Sq} : ∀ k, ∀ j, j < k → (sqAt qs j).2.2 = false → (sqAt qs j).2.1 ≤ mostK qs k
  | 0, j, hj, _ => absurd hj (by omega)
  | k + 1, j, hj, hb => by
    unfold mostK
    by_cases e : j = k
    · subst e
      rw [hb]
      simp only [Bool.false_eq_true, if_false]
      split
      · omega
      · omega
    · have ih := mostK_ge k j (by omega) hb
      split
      · exact ih
      · split
        · exact ih
        · omega
/-- What FnWear asks of Empty's list. -/
theorem empty_at {z : Int} {qs : List Sq} {i : Nat} (hi : i < (emptyL z qs).length) : ∃ e : Nat, (emptyL z qs).getD i 0 = (e : Int) ∧ e < qs.length ∧ (sqAt qs e).1.length = 0 ∧ (sqAt qs e).2.2 = false ∧ (worn z qs).1 ≤ (sqAt qs e).2.1 ∧ (sqAt qs e).2.1 ≤ (worn z qs).2 ∧
    ∀ j, i = j + 1 → ∃ d : Nat, (emptyL z qs).getD j 0 = (d : Int) ∧ d < qs.length ∧ ((sqAt qs d).2.1 < (sqAt qs e).2.1 ∨ (sqAt qs d).2.1 = (sqAt qs e).2.1 ∧ (d : Int) < (e : Int)) := by
  cases hok : chipOk z qs with
  | false =>
    unfold emptyL at hi
    rw [hok] at hi
    simp at hi
  | true =>
    have hE : emptyL z qs = (emptyK qs qs.length).map (fun (i : Nat) => (i : Int)) := by unfold emptyL; rw [hok]; rfl
    have hW : worn z qs = (leastK qs qs.length, mostK qs qs.length) := by unfold worn; rw [hok]; rfl
    rw [hE, List.length_map] at hi
    have hat : ∀ k, (hk : k < (emptyK qs qs.length).length) → (emptyL z qs).getD k 0 = (((emptyK qs qs.length)[k] : Nat) : Int) := fun k hk => by
      rw [hE, List.getD_eq_getElem?_getD, List.getElem?_map, List.getElem?_eq_getElem hk]; rfl
    have hmem := (emptyK_mem qs qs.length ((emptyK qs qs.length)[i])).1 (List.getElem_mem hi)
    have he := hmem.2
    unfold isEmpty at he
    simp only [Bool.and_eq_true, Bool.not_eq_true', beq_iff_eq] at he
    have hl := leastK_le hok qs.length (Nat.le_refl _) _ hmem.1 he.2
    have hm := mostK_ge qs.length _ hmem.1 he.2
    refine ⟨(emptyK qs qs.length)[i], hat i hi, hmem.1, he.1, he.2, by rw [hW]; exact hl.2, by rw [hW]; exact hm, fun j hj => ?_⟩
    have hji : j < (emptyK qs qs.length).length := by omega
    have hmj := (emptyK_mem qs qs.length ((emptyK qs qs.length)[j])).1 (List.getElem_mem hji)
    have hs := List.pairwise_iff_getElem.1 (emptyK_sorted qs qs.length) j i hji hi (by omega)
    refine ⟨(emptyK qs qs.length)[j], hat j hji, hmj.1, ?_⟩
    unfold aheadW at hs
    omega
/-- What FnWear asks of the victim. -/
theorem victim_at {z : Int} {qs : List Sq} {ps : List Pl} {op : Int} (h : 0 ≤ victim z qs ps op) : ∃ b : Nat, victim z qs ps op = (b : Int) ∧ mapOk z qs ps = true ∧ b < qs.length ∧ (b : Int) ≠ op ∧ (liveN ps (b : Int) : Int) < z ∧ 0 < (sqAt qs b).1.length ∧ (sqAt qs b).2.2 = false ∧ ∀ i, i < qs.length → (i : Int) ≠ op → 0 < (sqAt qs i).1.length → (sqAt qs i).2.2 = false → liveN ps (b : Int) ≤ liveN ps (i : Int) := by
  cases hok : mapOk z qs ps with
  | false => unfold victim at h; rw [hok] at h; simp at h
  | true =>
    have hv : victim z qs ps op = victimV z qs ps op := by unfold victim; rw [hok]; rfl
    rw [hv] at h ⊢
    unfold victimV at h ⊢
    cases hb : bestK qs ps op qs.length with
    | none => rw [hb] at h; simp at h
    | some b =>
      rw [hb] at h
      dsimp only at h ⊢
      have hs := bestK_some hb
      have hlt := bestK_lt hb
      by_cases hz : (liveN ps (b : Int) : Int) = z
      · rw [if_pos hz] at h; omega
      · rw [if_neg hz]
        have hm := hs.1
        unfold mayV at hm
        simp only [Bool.and_eq_true, Bool.not_eq_true', beq_eq_false_iff_ne, ne_eq] at hm
        have hle := live_le hok b
        have hsz := (sqOk_parts (chipOk_at (mapOk_chip hok) hlt)).1
        refine ⟨b, rfl, rfl, hlt, hm.2.2, by omega, by omega, hm.2.1, fun i hi h1 h2 h3 => ?_⟩
        have hmi : mayV qs op i = true := by
          unfold mayV
          have g1 : ((sqAt qs i).1.length == 0) = false := by simp; intro e; rw [e] at h2; simp at h2
          have g2 : ((i : Int) == op) = false := by simpa using h1
          rw [g1, g2, h3]; rfl
        have hn := hs.2 i hi hmi
        unfold lessR rkV9 at hn
        dsimp only at hn
        omega
end Go.Proofs.YtocinobbocjikaaGreatDoor
end

section
namespace Go.Proofs.YtocinobbocjikaaGreatDoor
open Go.RowKit
set_option linter.unusedVariables false

/-- Places as cells. -/
def plL (ps : List Pl) : List Value := (List.range (ps.length * 2)).map (cellP ps)
theorem plL_length (ps : List Pl) : (plL ps).length = ps.length * 2 := by simp [plL]
theorem plL_at (ps : List Pl) {j : Nat} (h : j < ps.length * 2) : (plL ps)[j]? = some (cellP ps j) := by
  unfold plL; rw [List.getElem?_map, List.getElem?_range h]; rfl
theorem plAt_snoc_lt (ps : List Pl) (x : Pl) {i : Nat} (h : i < ps.length) : plAt (ps ++ [x]) i = plAt ps i := by
  unfold plAt; rw [List.getD_eq_getElem?_getD, List.getD_eq_getElem?_getD, List.getElem?_append_left h]
theorem plAt_snoc (ps : List Pl) (x : Pl) : plAt (ps ++ [x]) ps.length = x := by
  unfold plAt; rw [List.getD_eq_getElem?_getD, List.getElem?_append_right (Nat.le_refl _)]; simp
theorem plL_snoc (ps : List Pl) (x : Pl) : plL ps ++ [.int .i64 x.1, .int .i64 x.2] = plL (ps ++ [x]) := by
  have hlen : (ps ++ [x]).length = ps.length + 1 := by simp
  refine List.ext_getElem? fun j => ?_
  by_cases h : j < ps.length * 2
  · rw [List.getElem?_append_left (by rw [plL_length]; exact h), plL_at ps h, plL_at _ (by rw [hlen]; omega)]
    unfold cellP
    rw [plAt_snoc_lt ps x (show j / 2 < ps.length by omega)]
  · rw [List.getElem?_append_right (by rw [plL_length]; omega), plL_length]
    by_cases e0 : j = ps.length * 2
    · subst e0
      rw [plL_at _ (by rw [hlen]; omega)]
      unfold cellP
      rw [if_pos (by omega), show ps.length * 2 / 2 = ps.length by omega, plAt_snoc]
      simp
    · by_cases e1 : j = ps.length * 2 + 1
      · subst e1
        rw [plL_at _ (by rw [hlen]; omega)]
        unfold cellP
        rw [if_neg (by omega), show (ps.length * 2 + 1) / 2 = ps.length by omega, plAt_snoc]
        simp
      · rw [List.getElem?_eq_none (by simp; omega), List.getElem?_eq_none (by rw [plL_length, hlen]; omega)]
abbrev PlOwn (B : Nat) (w : World) (v : Value) (ps : List Pl) : Prop := w.ownsRow B 79 2 v ps.length (plL ps)
theorem pl_made0 (w : World) : PlOwn w.heap.size (w.alloc (.cells #[] 79)) (.slice (some ⟨w.heap.size, 0, none⟩) 0 0) [] := by
  have hb : (w.alloc (.cells #[] 79)).heap[w.heap.size]? = some (.cells #[] 79 (0, 0)) := heap_new _ _
  exact ⟨rfl, .inr ⟨w.heap.size, 0, #[], rfl, Nat.le_refl _, hb, Nat.le_refl _, Nat.zero_le _, rfl, rfl⟩⟩
theorem pl_form {B : Nat} {w : World} {v : Value} {ps : List Pl} (h : PlOwn B w v ps) : ∃ a c, v = .slice a ps.length c ∧ ps.length ≤ c := by
  rcases h.2 with ⟨e, h0⟩ | ⟨g, cap, cur, e, _, _, hn, _⟩
  · exact ⟨none, 0, by rw [e, h0], by omega⟩
  · exact ⟨_, cap, e, hn⟩
theorem pl_cap {B : Nat} {w : World} {a : Option Addr} {n cm : Nat} {ps : List Pl} (h : PlOwn B w (.slice a n cm) ps) : ps.length ≤ cm := by
  obtain ⟨a', c', e, h2⟩ := pl_form h
  simp only [Value.slice.injEq] at e
  omega
theorem pl_places {B : Nat} {w : World} {a : Option Addr} {c : Nat} {ps : List Pl} (h : PlOwn B w (.slice a ps.length c) ps) : Places B w.heap.size w a ps.length ps := by
  refine ⟨rfl, Nat.le_refl _, fun h0 => ?_⟩
  rcases h.2 with ⟨_, h1⟩ | ⟨g, cap, cur, e, hg, hgg, _⟩
  · omega
  · simp only [Value.slice.injEq, true_and] at e
    obtain ⟨rfl, rfl⟩ := e
    refine ⟨g, 0, rfl, hg, (Array.getElem?_eq_some_iff.1 hgg).1, fun i hi => ?_⟩
    rw [Nat.zero_add, h.cellAt i (by omega), plL_at ps (by omega)]
theorem pl_some {B : Nat} {w : World} {v : Value} {ps : List Pl} (h : PlOwn B w v ps) (h1 : 1 ≤ ps.length) : ∃ g c, v = .slice (some ⟨g, 0, none⟩) ps.length c ∧ ps.length ≤ c := by
  rcases h.2 with ⟨e, h0⟩ | ⟨g, cap, cur, e, _, _, hn, _⟩
  · omega
  · exact ⟨g, cap, e, hn⟩
theorem cellP_0 (ps : List Pl) : cellP ps 0 = .int .i64 (plAt ps 0).1 := rfl
theorem cellP_1 (ps : List Pl) : cellP ps 1 = .int .i64 (plAt ps 0).2 := rfl
theorem Places.wide {lo lo' hi n : Nat} {w : World} {a : Option Addr} {ps : List Pl} (h : Places lo hi w a n ps) (h1 : lo' ≤ lo) : Places lo' hi w a n ps :=
  ⟨h.1, h.2.1, fun hn => by obtain ⟨b, off, e, h4, h5, h6⟩ := h.2.2 hn; exact ⟨b, off, e, by omega, h5, h6⟩⟩
theorem two_news (w : World) (x y : Int) (t : TypeId) : ∀ j u, [Value.int .i64 x, .int .i64 y][j]? = some u → (w.alloc (.cells #[.int .i64 x, .int .i64 y] t)).cell? ((⟨w.heap.size, 0, none⟩ : Addr).add j) = some u := by
  intro j u hj
  have h := heap_new w (.cells #[.int .i64 x, .int .i64 y] t)
  obtain ⟨c0, c1⟩ := two_cells h
  have hadd : (⟨w.heap.size, 0, none⟩ : Addr).add j = ⟨w.heap.size, j, none⟩ := by unfold Addr.add; split <;> simp_all
  rw [hadd]
  match j, hj with
  | 0, hj => rw [c0]; exact hj
  | 1, hj => rw [c1]; exact hj
  | j + 2, hj => simp at hj
theorem two_oneI (x y : Int) : ∀ u ∈ [Value.int .i64 x, .int .i64 y], u.oneCell' = true := by
  intro u hu
  simp only [List.mem_cons, List.not_mem_nil, or_false] at hu
  rcases hu with rfl | rfl <;> rfl
theorem own_aside2 {w w' : World} {base e s n : Nat} {v : Value} {xs : List Value} (h : w.ownsRow base e s v n xs) {l r : Nat} (hb : Aside l r w w') (hr : r ≤ base) : w'.ownsRow base e s v n xs := by
  obtain ⟨h1, h2⟩ := h
  refine ⟨h1, ?_⟩
  rcases h2 with hn | ⟨g, cap, cur, rfl, hbg, hgg, rest⟩
  · exact .inl hn
  · exact .inr ⟨g, cap, cur, rfl, hbg, (hb.block g (Array.getElem?_eq_some_iff.1 hgg).1 (.inr (by omega))).trans hgg, rest⟩
theorem Tryz.infoPl9 : (Tryz.prog.info? 79).map (fun i => (i.zero, i.size, i.bytes)) = some (some (.agg #[.int .i64 0, .int .i64 0]), 2, 16) := by kernel_rfl
end Go.Proofs.YtocinobbocjikaaGreatDoor
end

section
namespace Go.Proofs.YtocinobbocjikaaGreatDoor
open Go.RowKit
set_option linter.unusedVariables false
set_option maxRecDepth 20000

/-- 'append([]Place{}, s...)': new Places. -/
theorem append_places {P : Program} (hinfo : (P.info? 79).map (fun i => (i.zero, i.size, i.bytes)) = some (some (.agg #[.int .i64 0, .int .i64 0]), 2, 16)) {t : TypeId} (ht : P.underlying t = some (.slice 79)) {B g : Nat} {w : World} (ho : PlOwn B w (.slice (some ⟨g, 0, none⟩) 0 0) []) (hB : B ≤ w.heap.size)
    {lo hi : Nat} {a : Option Addr} {n c : Nat} {ps : List Pl} (hx : Places lo hi w a n ps) (hn0 : 1 ≤ n) (hn : n ≤ 1048576) :
    ∃ g' c' w', (Builtin.append_ #[t, t] t #[.slice (some ⟨g, 0, none⟩) 0 0, .slice a n c]).run P w = .ok (.slice (some ⟨g', 0, none⟩) n c') w' ∧ PlOwn B w' (.slice (some ⟨g', 0, none⟩) ps.length c') ps ∧ w.grownBy w' (some g) ∧ (g' = g ∨ g' = w.heap.size) := by
  obtain ⟨i0, hi0, hz0, hz1, hz2⟩ := info_parts hinfo
  obtain ⟨hl, _, hx⟩ := hx
  subst hl
  obtain ⟨b, off, rfl, _, _, hc⟩ := hx (by omega)
  have hnews : ∀ (j : Nat) u, (plL ps)[j]? = some u → w.cell? ((⟨b, off, none⟩ : Addr).add j) = some u := by
    intro j u hj
    have hjl : j < ps.length * 2 := by
      rcases Nat.lt_or_ge j (ps.length * 2) with h | h
      · exact h
      · rw [List.getElem?_eq_none (by rw [plL_length]; exact h)] at hj; simp at hj
    have hadd : (⟨b, off, none⟩ : Addr).add j = ⟨b, off + j, none⟩ := by unfold Addr.add; split <;> simp_all
    rw [hadd, hc j (by omega), ← hj, plL_at ps hjl]
  obtain ⟨v', w', h1, h2, h3, h4, h5⟩ := run_append_own_at (P := P) w B t t 79 i0 (.agg #[.int .i64 0, .int .i64 0]) 2 16 ht hi0 hz0 hz1 hz2 rfl (by decide) _ 0 [] ho ⟨b, off, none⟩ ps.length c (plL ps) (by rw [plL_length]) hnews
    (fun u hu => by
      unfold plL at hu
      rw [List.mem_map] at hu
      obtain ⟨j, _, rfl⟩ := hu
      unfold cellP
      split <;> rfl) (by unfold maxLen; omega) (by omega) hB
  rw [Nat.zero_add, List.nil_append] at h2
  obtain ⟨g', c', rfl, _⟩ := pl_some h2 hn0
  refine ⟨g', c', w', h1, h2, h3, ?_⟩
  rcases h5 with h5 | h5
  · exact .inl (by have e : some g' = some g := h5; simpa using e)
  · exact .inr (by have e : some g' = some w.heap.size := h5; simpa using e)
end Go.Proofs.YtocinobbocjikaaGreatDoor
end

section
namespace Go.Proofs.YtocinobbocjikaaGreatDoor
open Go.RowKit
set_option linter.unusedVariables false
set_option maxRecDepth 20000

theorem GrowSqs.fresh {B n g : Nat} {w w' : World} {qs : List Sq} {A : Nat → Option Addr} {C : Nat → Nat} (h : GrowSqs B w n qs g A C) (hb : Below w.heap.size w w') : GrowSqs B w' n qs g A C := h.later hb
/-- A page written behind Square i's, as the walk leaves it. -/
theorem GrowSqs.wrote {B n g i g' c' : Nat} {w w1 : World} {qs : List Sq} {A : Nat → Option Addr} {C : Nat → Nat} {tx : ByteArray} (h : GrowSqs B w n qs g A C) (hi : i < n) (hg : w.grownBy w1 (oB (A i)))
    (ho : w1.ownsRow B 9 1 (.slice (some ⟨g', 0, none⟩) ((sqAt qs i).1.length + 1) c') ((sqAt qs i).1.length + 1) (pgV (sqAt qs i).1 ++ [.string tx])) (hat : oB (A i) = some g' ∨ w.heap.size ≤ g') :
    GrowSqs B (w1.setCell ⟨g, i * 3, none⟩ (.slice (some ⟨g', 0, none⟩) ((sqAt qs i).1.length + 1) c')) n (qs.set i ((sqAt qs i).1 ++ [tx], (sqAt qs i).2.1, (sqAt qs i).2.2)) g (upd A i (some ⟨g', 0, none⟩)) (upd C i c') := by
  have e : (sqAt qs i).1.length + 1 = ((sqAt qs i).1 ++ [tx]).length := by simp
  rw [e, pgV_snoc] at ho
  rw [e]
  exact h.setPages hi hg ho (fun m hm => by have e' : some g' = some m := hm; simp only [Option.some.injEq] at e'; subst e'; exact hat)

theorem two_moved (w : World) (o : Obj) (g j k : Nat) (u v : Value) (h : g < w.heap.size) : ((w.alloc o).setCell ⟨g, j, none⟩ u).setCell ⟨g, k, none⟩ v = ((w.setCell ⟨g, j, none⟩ u).setCell ⟨g, k, none⟩ v).alloc o := by
  rw [World.setCell_alloc_past _ _ _ _ h, World.setCell_alloc_past _ _ _ _ (by rw [Go.Deep.nblk_setCell]; exact h)]

theorem cells01 {W : World} {b : Nat} {cs : Array Value} {t : TypeId} {fr : Nat × Nat} {c0 c1 : Value} (h : W.heap[b]? = some (.cells cs t fr)) (h0 : cs[0]? = some c0) (h1 : cs[1]? = some c1) : W.cell? ⟨b, 0, none⟩ = some c0 ∧ W.cell? ⟨b, 1, none⟩ = some c1 := by
  simp [World.cell?, h, h0, h1]
set_option maxHeartbeats 1600000 in
theorem l8Do_at (p c B : Nat) (z : Int) (n : Nat) (qs : List Sq) (g : Nat) (A : Nat → Option Addr) (C : Nat → Nat) (kd sq : Int) (tx : ByteArray) (w : World) (hG : GrowSqs B w n qs g A C) (hB : B ≤ w.heap.size) {ca : Array Value} {ct : TypeId} {cf : Nat × Nat}
    (hp : w.heap[p]? = some (.cells ca ct cf)) (hc0 : ca[0]? = some (.int .i64 z)) (hc1 : ca[1]? = some (.slice (some ⟨g, 0, none⟩) n c)) (hpg : p ≠ g) (hok : chipOk z qs = true) (htx : tx.size ≤ maxLen) :
    Calls Tryz.prog 135 #[.pointer (some ⟨p, 0, none⟩), .agg #[.int .i64 kd, .int .i64 sq, .string tx]] w fun e w' => e = .returned (.bool (canJ z qs (kd, sq, tx))) ∧ ∃ A' C', GrowSqs B w' n (doJ z qs (kd, sq, tx)) g A' C' ∧ Only B g w w' := by
  obtain ⟨wA, hwA⟩ : ∃ wA, wA = w.alloc (.cells #[.int .i64 kd, .int .i64 sq, .string tx] 106) := ⟨_, rfl⟩
  have hzA : wA.heap.size = w.heap.size + 1 := by rw [hwA]; simp
  have HBA : Hid (Below w.heap.size w wA) := by rw [hwA]; exact (Below.refl _ _).alloc (Nat.le_refl _) _
  have HJ : Hid (wA.heap[w.heap.size]? = some (.cells #[.int .i64 kd, .int .i64 sq, .string tx] 106)) := by rw [hwA]; exact heap_new _ _
  have HP := hide (block_on hp HBA.out)
  have HGA := hide (hG.later HBA.out)
  have hpl : p < w.heap.size := (Array.getElem?_eq_some_iff.1 hp).1
  have hgl : g < w.heap.size := by have := hG.row.1; omega
  have HL := hide hG.len
  have HOK := hide hok
  have hn12 : n ≤ 12 := by have := (chipOk_parts hok).2.2.2.1; rw [hG.len] at this; exact this
  have HC : ∀ w9, Hid (Below wA.heap.size wA w9 → Calls Tryz.prog 173 #[.agg #[.int .i64 z, .slice (some ⟨g, 0, none⟩) n c], .agg #[.int .i64 kd, .int .i64 sq, .string tx]] w9 fun e w' => e = .returned (.bool (canJ z qs (kd, sq, tx))) ∧ Below w9.heap.size w9 w') := fun w9 h9 =>
    l8Can_any z (some ⟨g, 0, none⟩) n c qs kd sq tx w9 ((HGA.out.later h9).ownS.squares) (Nat.le_refl _) (by omega) (chipOk_fits HOK.out) htx
  clear hG hp hok
  obtain ⟨a0, a1⟩ := cells01 HP.out hc0 hc1
  obtain ⟨j0, j1, j2⟩ := three_cells HJ.out
  go_enter Tryz.func135, Tryz.ntmps135
  go_upto_region 1 with fail
  rw [← hwA]
  clear hwA
  go_cut [11] (fun d wx => d = .bool (!canJ z qs (kd, sq, tx)) ∧ Below wA.heap.size wA wx)
  case first =>
    go_region_with (go_at_call 173; refine ((HC _).out (by exact (Below.refl _ wA).drew)).mono ?_; rintro e w1 ⟨rfl, b1⟩; have HB1 := hide ((Below.refl wA.heap.size wA).drew.trans b1); clear b1)
    all_goals
      go_wp2_with fail
      go_meet
      exact ⟨rfl, HB1.out⟩
  obtain ⟨rfl, hcb⟩ := hcut
  obtain ⟨w1, hw1⟩ : ∃ w1, w1 = wc := ⟨_, rfl⟩
  subst hw1
  have HB1 := hide hcb
  clear hcb
  have hs1 := HB1.out.size
  have HP1 := hide (block_on HP.out HB1.out)
  have HJ1 := hide (block_on HJ.out HB1.out)
  have HG1 := hide (HGA.out.later HB1.out)
  have HW1 := hide (below_here HBA.out HB1.out)
  clear a0 a1 j0 j1 j2 HP HJ HGA HC HB1
  obtain ⟨a0, a1⟩ := cells01 HP1.out hc0 hc1
  obtain ⟨j0, j1, j2⟩ := three_cells HJ1.out
  cases hcan : canJ z qs (kd, sq, tx) with
  | false =>
    go_wp2_with fail
    go_ret
    exact ⟨ret_bool hcan.symm, A, C, by rw [doJ_no hcan]; exact HG1.out, only_of_below HW1.out hB⟩
  | true =>
    obtain ⟨i, hi, hil, hbad, hkk⟩ := canJ_parts hcan
    dsimp only at hi hkk
    subst hi
    have hin : i < n := by rw [← HL.out]; exact hil
    have HDO := hide (doJ_yes hcan)
    obtain ⟨c0, c1, c2⟩ := HG1.out.cells hin
    have hsq := sqOk_parts (chipOk_at HOK.out hil)
    have hl8 : (sqAt qs i).1.length ≤ 8 := by have := hsq.1; have := (chipOk_parts HOK.out).2.1; omega
    have hzw0 := hsq.2.1
    have hzw1 := hsq.2.2.1
    have HKK := hide (canK_kind hkk)
    have hlt2 : (i : Int) < (n : Int) := by omega
    have HCAN := hide hcan
    clear hcan hkk hsq
    go_upto_region 3 with fail
    go_quiet (fail)
    have HBQ : Hid (Below w1.heap.size w1 (w1.drewN nq)) := ⟨rfl, rfl, rfl, Nat.le_refl _, fun _ _ => rfl⟩
    have hsq : w1.heap.size = (w1.drewN nq).heap.size := rfl
    generalize w1.drewN nq = wq at *
    have HPQ := hide (block_on HP1.out HBQ.out)
    have HJQ := hide (block_on HJ1.out HBQ.out)
    have HGQ := hide (HG1.out.later HBQ.out)
    have HWQ := hide (below_here HW1.out HBQ.out)
    clear a0 a1 j0 j1 j2 c0 c1 c2 HP1 HJ1 HG1 HW1 HBQ
    obtain ⟨j0, j1, j2⟩ := three_cells HJQ.out
    obtain ⟨c0, c1, c2⟩ := HGQ.out.cells hin
    have f0 := HGQ.out.open_ (show i * 3 < 3 * n by omega)
    have f1 := HGQ.out.open_ (show i * 3 + 1 < 3 * n by omega)
    have f2 := HGQ.out.open_ (show i * 3 + 2 < 3 * n by omega)
    have HCT : Hid (canJ z qs (kd, (i : Int), tx) = true) := HCAN.out
    have hgq : g < wq.heap.size := by omega
    rcases HKK.out with ⟨rfl, k1, k2, k3⟩ | ⟨rfl, k1⟩ | rfl
    · have HSQ : Hid (sqDo (sqAt qs i) 1 tx = ((sqAt qs i).1 ++ [tx], (sqAt qs i).2.1, (sqAt qs i).2.2)) := rfl
      clear HKK c1 c2 f1 f2 j1
      obtain ⟨i0, hi0, hzz0, hzz1, hzz2⟩ := info_parts Tryz.infoStrC
      have HBB := hide ((Below.refl wq.heap.size wq).alloc (Nat.le_refl _) (.cells #[.string tx] 9))
      have HGB := hide (HGQ.out.later HBB.out)
      have HPB := hide (HGB.out.pages.own i hin)
      have HPD : Hid (World.ownsRow (wq.alloc (.cells #[.string tx] 9)).drew B 9 1 (.slice (A i) (sqAt qs i).1.length (C i)) (sqAt qs i).1.length (pgV (sqAt qs i).1)) := (HPB.out).drew
      have hzB : (wq.alloc (.cells #[.string tx] 9)).heap.size = wq.heap.size + 1 := by simp
      have c0' := (HBB.out.cell (p := ⟨g, i * 3, none⟩) hgq).trans c0
      have f0' := (HBB.out.frozen (p := ⟨g, i * 3, none⟩) hgq).trans f0
      have HNE : Hid (some g ≠ (Value.slice (A i) (sqAt qs i).1.length (C i)).ownBlock) := by show _ ≠ _; rw [ownBlock_slice]; exact fun e => HGQ.out.apartG i hin e.symm
      go_upto_region 6 with fail
      go_region_law (refine step_append_lies _ (by rfl) _ _ _ (by rfl) B 9 i0 (.string ByteArray.empty) 1 16 Tryz.underlying44 hi0 hzz0 hzz1 hzz2 rfl (by decide) (.slice (A i) (sqAt qs i).1.length (C i)) (sqAt qs i).1.length (pgV (sqAt qs i).1) (by rfl) HPD.out ⟨wq.heap.size, 0, none⟩ 1 1 [.string tx] (by rfl) rfl (cell_one_new _ _ _) (by simp [Value.oneCell']) (by omega) (by unfold maxLen; omega) (by omega) (by simp; omega) (wq.heap.size + 1) (by simp) ?_; intro g' c' w5 hown5 hgr5 hat5 hlt5; have c5 := (hgr5.cell_far ⟨g, i * 3, none⟩ (by simp; omega) HNE.out).trans c0'; have f5 := (hgr5.frozen_far ⟨g, i * 3, none⟩ (by simp; omega) HNE.out).trans f0'; have HO5 := hide hown5; have HR5 := hide hgr5; have HA5 := hide hat5; clear hown5 hgr5 hat5)
      all_goals
        have HR6 : Hid ((wq.alloc (.cells #[.string tx] 9)).grownBy w5 (oB (A i))) := ⟨HR5.out.os, HR5.out.tape, HR5.out.output, HR5.out.size, fun k hk hne => HR5.out.block k hk (by rw [ownBlock_slice]; exact hne)⟩
        have HGF := hide (HGB.out.wrote hin HR6.out HO5.out (HA5.out.imp (fun e => by rw [ownBlock_slice] at e; exact e) (fun e => by omega)))
        have HON := hide ((((only_of_below (B := B) (g := g) HWQ.out hB).on HBB.out (by omega)).grown HPB.out HR6.out (by omega)).set HGQ.out.atG (i * 3) (.slice (some ⟨g', 0, none⟩) ((sqAt qs i).1.length + 1) c'))
        go_wp2_with fail
        go_ret
        exact ⟨ret_bool HCT.out.symm, _, _, by rw [HDO.out, HSQ.out]; exact HGF.out, HON.out⟩
    · have HSQ : Hid (sqDo (sqAt qs i) 2 tx = ([], (sqAt qs i).2.1 + 1, (sqAt qs i).2.2)) := rfl
      clear HKK
      have HBB := hide ((Below.refl wq.heap.size wq).alloc (Nat.le_refl _) (.cells #[] 9))
      have HPB := hide ((own_made0 wq 9).mono (show B ≤ wq.heap.size by omega))
      have HG2 := hide (HGQ.out.setPages hin (w1 := wq.alloc (.cells #[] 9)) (a' := some ⟨wq.heap.size, 0, none⟩) (c' := 0) (ts' := []) (grown_below HBB.out _) HPB.out (fun m hm => .inr (by have e : some wq.heap.size = some m := hm; simp only [Option.some.injEq] at e; omega)))
      have HG3 := hide (HG2.out.setWipes hin ((sqAt qs i).2.1 + 1))
      have HON := hide ((((only_of_below (B := B) (g := g) HWQ.out hB).on HBB.out (by omega)).set HGQ.out.atG (i * 3) (.slice (some ⟨wq.heap.size, 0, none⟩) 0 0)).set HGQ.out.atG (i * 3 + 1) (.int .i64 ((sqAt qs i).2.1 + 1)))
      have HSS : Hid ((qs.set i ([], (sqAt qs i).2.1, (sqAt qs i).2.2)).set i ((sqAt (qs.set i ([], (sqAt qs i).2.1, (sqAt qs i).2.2)) i).1, (sqAt qs i).2.1 + 1, (sqAt (qs.set i ([], (sqAt qs i).2.1, (sqAt qs i).2.2)) i).2.2) = qs.set i ([], (sqAt qs i).2.1 + 1, (sqAt qs i).2.2)) := by
        show _ = _
        rw [List.set_set, sqAt_set qs _ hil, if_pos rfl]
      have HEQ := hide (two_moved wq (.cells #[] 9) g (i * 3) (i * 3 + 1) (.slice (some ⟨wq.heap.size, 0, none⟩) 0 0) (.int .i64 ((sqAt qs i).2.1 + 1)) hgq)
      have d0 := (HBB.out.cell (p := ⟨g, i * 3, none⟩) hgq).trans c0
      have e0 := (HBB.out.frozen (p := ⟨g, i * 3, none⟩) hgq).trans f0
      have d1 := (HBB.out.cell (p := ⟨g, i * 3 + 1, none⟩) hgq).trans c1
      have e1 := (HBB.out.frozen (p := ⟨g, i * 3 + 1, none⟩) hgq).trans f1
      generalize hzw : (sqAt qs i).2.1 = zw at *
      go_wp2_with fail
      go_ret
      exact ⟨ret_bool HCT.out.symm, upd A i (some ⟨wq.heap.size, 0, none⟩), upd C i 0, by rw [HDO.out, HSQ.out, ← HSS.out, ← HEQ.out]; exact HG3.out, by rw [← HEQ.out]; exact HON.out⟩
    · have HSQ : Hid (sqDo (sqAt qs i) 3 tx = ((sqAt qs i).1, (sqAt qs i).2.1, true)) := rfl
      clear HKK
      have HGF := hide (HGQ.out.setBad hin true)
      have HON := hide ((only_of_below (B := B) (g := g) HWQ.out hB).set HGQ.out.atG (i * 3 + 2) (.bool true))
      go_wp2_with fail
      go_ret
      exact ⟨ret_bool HCT.out.symm, A, C, by rw [HDO.out, HSQ.out]; exact HGF.out, HON.out⟩
theorem l8Do_any (p c B : Nat) (z : Int) (n : Nat) (qs : List Sq) (g : Nat) (A : Nat → Option Addr) (C : Nat → Nat) (kd sq : Int) (tx : ByteArray) (w : World) (hG : GrowSqs B w n qs g A C) (hB : B ≤ w.heap.size)
    (hp : w.heap[p]? = some (.cells #[.int .i64 z, .slice (some ⟨g, 0, none⟩) n c] 26)) (hpg : p ≠ g) (hok : chipOk z qs = true) (htx : tx.size ≤ maxLen) :
    Calls Tryz.prog 135 #[.pointer (some ⟨p, 0, none⟩), .agg #[.int .i64 kd, .int .i64 sq, .string tx]] w fun e w' => e = .returned (.bool (canJ z qs (kd, sq, tx))) ∧ ∃ A' C', GrowSqs B w' n (doJ z qs (kd, sq, tx)) g A' C' ∧ Only B g w w' :=
  l8Do_at p c B z n qs g A C kd sq tx w hG hB hp rfl rfl hpg hok htx
end Go.Proofs.YtocinobbocjikaaGreatDoor
end

section
namespace Go.Proofs.YtocinobbocjikaaGreatDoor
open Go.RowKit
set_option linter.unusedVariables false
set_option maxRecDepth 20000

set_option maxHeartbeats 800000 in
theorem l9Live_any (a : Option Addr) (n cap : Nat) (ps : List Pl) (s : Int) (w : World) {lo hi : Nat} (h : Places lo hi w a n ps) (hn : n ≤ 1048576) :
    Calls Tryz.prog 133 #[.slice a n cap, .int .i64 s] w fun e w' => e = .returned (.int .i64 (liveN ps s : Int)) ∧ w = w' := by
  obtain ⟨hl, hx⟩ := h
  have HL := hide hl
  have HX := hide hx
  have hsz := hx.1
  clear hl hx
  go_enter Tryz.func133, Tryz.ntmps133
  go_wp2_with fail
  go_loopw [5, 6] (fun t i wr => ∃ k : Nat, k ≤ n ∧ i = .int .i64 (k : Int) ∧ t = .int .i64 (liveN (ps.take k) s : Int) ∧ w = wr) (fun _ i _ => n - (intOf i).toNat)
  case atStart => exact ⟨0, Nat.zero_le _, rfl, by simp [liveN], rfl⟩
  case round =>
    obtain ⟨k, hk, rfl, rfl, rfl⟩ := hrel
    by_cases hlt : k < n
    · obtain ⟨b, off, rfl, _, hb, hc⟩ := HX.out.2 (by omega)
      obtain ⟨c0, c1⟩ := pl_cells hc (Below.refl w.heap.size w) (show b < w.heap.size by omega) hlt
      have HS := hide (liveN_step (show k < ps.length by rw [HL.out]; exact hlt) s)
      have hle := liveN_le (ps.take k) s
      have hle2 : liveN (ps.take k) s ≤ 1048576 := by rw [List.length_take] at hle; omega
      clear hc c1 hle
      generalize liveN (ps.take k) s = q at *
      by_cases he : (plAt ps k).1 = s
      · have g : ((plAt ps k).1 == s) = true := by simpa using he
        have HE : Hid (liveN (ps.take (k + 1)) s = q + 1) := by show _ = _; rw [HS.out, g]; rfl
        generalize (plAt ps k).1 = v at *
        subst he
        go_wp2_with fail
        exact ⟨⟨k + 1, by omega, by go_num, by rw [HE.out]; go_num, trivial⟩, by simp [intOf]; omega⟩
      · have g : ((plAt ps k).1 == s) = false := by simpa using he
        have HE : Hid (liveN (ps.take (k + 1)) s = q) := by show _ = _; rw [HS.out, g]; rfl
        generalize (plAt ps k).1 = v at *
        go_wp2_with fail
        exact ⟨⟨k + 1, by omega, by go_num, by rw [HE.out], trivial⟩, by simp [intOf]; omega⟩
    · have HE : Hid (liveN (ps.take k) s = liveN ps s) := by show _ = _; rw [List.take_of_length_le (by rw [HL.out]; omega)]
      generalize liveN (ps.take k) s = q at *
      go_wp2_with fail
      go_ret
      exact ⟨by rw [← HE.out]; rfl, rfl⟩

theorem freeK_bound {z : Int} {qs : List Sq} (h : chipOk z qs = true) : ∀ k, k ≤ qs.length → 0 ≤ freeK z qs k ∧ freeK z qs k ≤ 8 * (k : Int)
  | 0, _ => by simp [freeK]
  | k + 1, hk => by
    have h1 := freeK_bound h k (by omega)
    have h2 := sqOk_parts (chipOk_at h (show k < qs.length by omega))
    have h3 := (chipOk_parts h).2.1
    rw [freeK_step (by omega)]
    split
    · omega
    · omega

end Go.Proofs.YtocinobbocjikaaGreatDoor
end

section
namespace Go.Proofs.YtocinobbocjikaaGreatDoor
open Go.RowKit
set_option linter.unusedVariables false
set_option maxRecDepth 20000

theorem Tryz.eqPl (a b c d : Int) (w : World) : (Op.equalIn 10000 79 (.agg #[.int .i64 a, .int .i64 b]) (.agg #[.int .i64 c, .int .i64 d])).run Tryz.prog w = .ok (a == c && b == d) w := by
  have u := Tryz.underlying2
  have hS : Tryz.prog.underlying 79 = some (.struct (Tryz.prog.fieldsOf 79)) := by kernel_rfl
  rw [show (10000 : Nat) = 9999 + 1 from rfl, run_equalIn_agg w 9999 _ _ _ hS (by kernel_rfl)]
  simp only [Program.fieldsOf, Tryz.underlying79]
  go_simp
  by_cases h1 : a = c <;> by_cases h2 : b = d <;> simp [h1, h2]
theorem Tryz.guardPl : Tryz.prog.eqGuardType Tryz.prog.depth 79 = false := by kernel_rfl
theorem l9None_any (w : World) : Calls Tryz.prog 55 #[] w fun e w' => e = .returned (.agg #[.int .i64 (-1), .int .i64 0]) ∧ Below w.heap.size w w' := by
  have HB := hide ((Below.refl w.heap.size w).alloc (Nat.le_refl _) (.cells #[.int .i64 (-1), .int .i64 0] 79))
  go_enter Tryz.func55, Tryz.ntmps55
  go_wp2_with fail
  refine bodyPost_ret (results_cell rfl rfl (run_loadVar_row _ _ _ _ _ _ _ (heap_new _ _) Tryz.underlying79 rfl (by kernel_rfl))) rfl ⟨rfl, HB.out⟩

set_option maxHeartbeats 1600000 in
theorem l9There_any (z : Int) (a : Option Addr) (n cap : Nat) (qs : List Sq) (p q : Int) (w : World) {lo hi : Nat} (h : Squares lo hi w a n qs) (hhi : hi ≤ w.heap.size) (hn : n ≤ 12) (hf : ∀ x ∈ qs, sqFits x) :
    Calls Tryz.prog 103 #[.agg #[.int .i64 z, .slice a n cap], .agg #[.int .i64 p, .int .i64 q]] w fun e w' => e = .returned (.bool (plThere qs (p, q))) ∧ Below w.heap.size w w' := by
  obtain ⟨wA, hwA⟩ : ∃ wA, wA = (w.alloc (.cells #[.int .i64 z, .slice a n cap] 26)).alloc (.cells #[.int .i64 p, .int .i64 q] 79) := ⟨_, rfl⟩
  have hzA : wA.heap.size = w.heap.size + 1 + 1 := by rw [hwA]; simp
  have HBA : Hid (Below w.heap.size w wA) := by rw [hwA]; exact ((Below.refl _ _).alloc (Nat.le_refl _) _).alloc (by simp) _
  have H1 : Hid (wA.heap[w.heap.size]? = some (.cells #[.int .i64 z, .slice a n cap] 26)) := by rw [hwA]; exact heap_old (heap_new _ _)
  have H2 : Hid (wA.heap[w.heap.size + 1]? = some (.cells #[.int .i64 p, .int .i64 q] 79)) := by rw [hwA]; exact heap_at (by simp)
  have HSQ := hide (h.later HBA.out hhi)
  have HL := hide h.1
  have HF := hide hf
  clear h hf
  obtain ⟨a0, a1⟩ := two_cells H1.out
  obtain ⟨b0, b1⟩ := two_cells H2.out
  have HI1 : ∀ w9, Hid (Calls Tryz.prog 54 #[.int .i64 p, .int .i64 0, .int .i64 ((n : Int) - 1)] w9 fun e w' => e = .returned (.bool (inB p 0 ((n : Int) - 1))) ∧ w9 = w') := fun w9 => l1In_any _ _ _ w9
  by_cases hin : inB p 0 ((n : Int) - 1) = true
  · have hin2 := hin
    unfold inB at hin2
    simp only [Bool.and_eq_true, decide_eq_true_eq] at hin2
    obtain ⟨i, rfl⟩ : ∃ i : Nat, p = (i : Int) := ⟨p.toNat, by omega⟩
    have hlt : i < n := by omega
    have hql : i < qs.length := by rw [HL.out]; exact hlt
    have hlt2 : (i : Int) < (n : Int) := by omega
    obtain ⟨_, A, C, hx, ht⟩ := HSQ.out
    obtain ⟨b, off, rfl, _, hb, hc⟩ := hx.2 (by omega)
    obtain ⟨c0, c1, c2⟩ := sq_cells hc (Below.refl wA.heap.size wA) (show b < wA.heap.size by have := hx.1; omega) hlt
    have hl9 := (sq_fits HF.out hql).2.1
    unfold maxLen at hl9
    have HE : Hid (plThere qs ((i : Int), q) = inB q 0 (((sqAt qs i).1.length : Int) - 1)) := by
      show _ = _
      unfold plThere
      dsimp only
      rw [HL.out, hin]
      simp
    rw [hin] at HI1
    have HI2 : ∀ w9, Hid (Calls Tryz.prog 54 #[.int .i64 q, .int .i64 0, .int .i64 (((sqAt qs i).1.length : Int) - 1)] w9 fun e w' => e = .returned (.bool (inB q 0 (((sqAt qs i).1.length : Int) - 1))) ∧ w9 = w') := fun w9 => l1In_any _ _ _ w9
    clear hc hx ht hin hin2 c1 c2
    generalize sqAt qs i = y at *
    obtain ⟨ts, zw, bd⟩ := y
    dsimp only at c0 hl9 HE HI2
    generalize inB q 0 ((ts.length : Int) - 1) = bb at *
    go_enter Tryz.func103, Tryz.ntmps103
    go_upto_region 1 with fail
    rw [← hwA]
    clear hwA
    go_quiet ((first | (go_at_call_of 54 (Value.int .i64 q); exact Calls.quiet_of_same ((HI2 _).out.mono fun e w' hh => ⟨hh.1, hh.2.symm⟩)) | (go_at_call_of 54 (Value.int .i64 (i : Int)); exact Calls.quiet_of_same ((HI1 _).out.mono fun e w' hh => ⟨hh.1, hh.2.symm⟩))))
    go_wp2_with fail
    go_ret
    exact ⟨ret_bool HE.out.symm, ⟨HBA.out.os, HBA.out.tape, HBA.out.output, HBA.out.size, HBA.out.block⟩⟩
  · have hin' : inB p 0 ((n : Int) - 1) = false := by simpa using hin
    have HE : Hid (plThere qs (p, q) = false) := by show _ = _; unfold plThere; dsimp only; rw [HL.out, hin']; rfl
    rw [hin'] at HI1
    go_enter Tryz.func103, Tryz.ntmps103
    go_upto_region 1 with fail
    rw [← hwA]
    clear hwA
    go_quiet ((go_at_call 54; exact Calls.quiet_of_same ((HI1 _).out.mono fun e w' hh => ⟨hh.1, hh.2.symm⟩)))
    go_wp2_with fail
    go_ret
    exact ⟨ret_bool HE.out.symm, ⟨HBA.out.os, HBA.out.tape, HBA.out.output, HBA.out.size, HBA.out.block⟩⟩

theorem pl_eq (a b : Pl) : (a == b) = ((a.1 == b.1) && (a.2 == b.2)) := by
  obtain ⟨a1, a2⟩ := a
  obtain ⟨b1, b2⟩ := b
  rfl

set_option maxHeartbeats 3200000 in
theorem specMapOk_any (z : Int) (a : Option Addr) (n cap : Nat) (qs : List Sq) (al : Option Addr) (m capl : Nat) (ps : List Pl) (w : World) {lo hi lo' hi' : Nat} (h : Squares lo hi w a n qs) (hhi : hi ≤ w.heap.size) (hn : n ≤ 1048576) (hf : ∀ x ∈ qs, sqFits x) (hp : Places lo' hi' w al m ps) (hhi' : hi' ≤ w.heap.size) (hm : m ≤ 1048576) :
    Calls Tryz.prog 53 #[.agg #[.int .i64 z, .slice a n cap], .slice al m capl] w fun e w' => e = .returned (.bool (mapOk z qs ps)) ∧ Below w.heap.size w w' := by
  obtain ⟨wA, hwA⟩ : ∃ wA, wA = w.alloc (.cells #[.int .i64 z, .slice a n cap] 26) := ⟨_, rfl⟩
  have hzA : wA.heap.size = w.heap.size + 1 := by rw [hwA]; simp
  have HBA : Hid (Below w.heap.size w wA) := by rw [hwA]; exact (Below.refl _ _).alloc (Nat.le_refl _) _
  have H1 : Hid (wA.heap[w.heap.size]? = some (.cells #[.int .i64 z, .slice a n cap] 26)) := by rw [hwA]; exact heap_new _ _
  have HSQ := hide (h.later HBA.out hhi)
  have HPL := hide (hp.later HBA.out hhi')
  have HL := hide h.1
  have HLP := hide hp.1
  have HF := hide hf
  clear h hf hp
  obtain ⟨a0, a1⟩ := two_cells H1.out
  go_enter Tryz.func53, Tryz.ntmps53
  go_upto_region 1 with fail
  rw [← hwA]
  clear hwA
  go_wp2_with fail
  refine (specChipOk_any z a n cap qs wA HSQ.out (by omega) hn HF.out).mono ?_
  rintro e w1 ⟨rfl, b1⟩
  have K1 := hide (block_on H1.out b1)
  have HS1 := hide (HSQ.out.later b1 (by omega))
  have HP1 := hide (HPL.out.later b1 (by omega))
  have HB1 := hide (below_here HBA.out b1)
  have hs1 := b1.size
  clear b1 H1 HSQ HPL HBA a0 a1
  cases hok : chipOk z qs with
  | false =>
    have HE : Hid (mapOk z qs ps = false) := by show _ = _; unfold mapOk; rw [hok]; rfl
    go_wp2_with fail
    go_ret
    exact ⟨ret_bool HE.out.symm, HB1.out⟩
  | true =>
    have hn12 : n ≤ 12 := by have := (chipOk_parts hok).2.2.2.1; rw [HL.out] at this; exact this
    by_cases h1 : 1 ≤ m
    · have g1 : decide ((m : Int) < 1) = false := by simp; omega
      by_cases h64 : m ≤ 64
      · have g2 : decide ((m : Int) > 64) = false := by simp; omega
        have HE : Hid (mapOk z qs ps = (List.range ps.length).all (plOk qs ps)) := by
          show _ = _
          unfold mapOk
          rw [hok, HLP.out, decide_eq_true h1, decide_eq_true h64]
          rfl
        clear hok
        go_wp2_with fail
        clear g1 g2
        go_loopw [5] (fun i wr => ∃ k : Nat, k ≤ m ∧ i = .int .i64 (k : Int) ∧ (List.range k).all (plOk qs ps) = true ∧ Below w1.heap.size w1 wr) (fun i _ => m - (intOf i).toNat)
        case atStart => exact ⟨0, Nat.zero_le _, rfl, rfl, Below.refl _ _⟩
        case round =>
          obtain ⟨k, hk, rfl, hall, hbel⟩ := hrel
          have HAL := hide hall
          have HBB := hide hbel
          clear hall
          by_cases hlt : k < m
          · have hpl : k < ps.length := by rw [HLP.out]; exact hlt
            obtain ⟨b, off, rfl, _, hb, hc⟩ := HP1.out.2.2 (by omega)
            obtain ⟨c0, c1⟩ := pl_cells hc hbel (show b < w1.heap.size by have := HP1.out.2.1; omega) hlt
            have HC := hide hc
            have HFA : Hid (plOk qs ps k = false → mapOk z qs ps = false) := fun hh => mapOk_fall hpl hh
            have HST : Hid (plOk qs ps k = true → (List.range (k + 1)).all (plOk qs ps) = true) := fun hh => all_range_step HAL.out hh
            have HPO : Hid (plOk qs ps k = ((((plAt ps k).1 == -1) && ((plAt ps k).2 == 0)) || (plThere qs (plAt ps k) && (List.range k).all (fun j => plAt ps j != plAt ps k)))) := by
              show _ = _
              unfold plOk
              rw [pl_eq]
            clear hc hbel
            obtain ⟨y, hy⟩ : ∃ y, y = plAt ps k := ⟨_, rfl⟩
            have HY := hide hy
            rw [← hy] at c0 c1 HPO
            clear hy
            obtain ⟨p, q⟩ := y
            dsimp only at c0 c1 HPO
            have cN : ∀ d os, Calls Tryz.prog 55 #[] (Go.Sort.grow (redrawn wr d) os) fun e w'' => e = .returned (.agg #[.int .i64 (-1), .int .i64 0]) ∧ ∃ p : Regrown, w'' = Go.Sort.grow (redrawn wr p.d) p.os := fun d os => Calls.regrown_of (l9None_any _)
            have k0 := cell_regrown c0
            have k1 := cell_regrown c1
            have q1 := Tryz.eqPl p q (-1) 0
            have q2 := Tryz.guardPl
            go_upto_region 6 with fail
            go_cut [31] (fun c wx => c = .bool ((p == -1) && (q == 0)) ∧ Below wr.heap.size wr wx)
            case first =>
              refine wp_region_quiet_below (by kernel_rfl) (by kernel_rfl) ?_
              repeat (go_big_quiet_step ((go_at_call 55; exact cN _ _)))
              refine wpQuiet_nil ?_
              intro _ hw'
              obtain ⟨⟨dq, osq⟩, hw''⟩ := hw'
              subst hw''
              have HBQ := hide (below_regrown wr dq osq)
              go_wp2_with fail
              go_meet
              exact ⟨rfl, HBQ.out⟩
            case rest =>
              obtain ⟨rfl, hb2⟩ := hcut
              obtain ⟨w2, hw2⟩ : ∃ w2, w2 = wc := ⟨_, rfl⟩
              subst hw2
              have HB2 := hide (below_here HBB.out hb2)
              clear hb2 k0 k1 cN q1 c0 c1
              cases hnone : ((p == -1) && (q == 0)) with
              | true =>
                have HOK := hide (HST.out (by rw [HPO.out, hnone]; rfl))
                go_wp2_with fail
                exact ⟨⟨k + 1, by omega, by go_num, HOK.out, HB2.out⟩, by simp [intOf]; omega⟩
              | false =>
                have HPO2 : Hid (plOk qs ps k = (plThere qs (p, q) && (List.range k).all (fun j => plAt ps j != (p, q)))) := by show _ = _; rw [HPO.out, hnone]; rfl
                obtain ⟨c0, c1⟩ := pl_cells HC.out HB2.out (show b < w1.heap.size by have := HP1.out.2.1; omega) hlt
                rw [← HY.out] at c0 c1
                dsimp only at c0 c1
                obtain ⟨a0, a1⟩ := two_cells (block_on K1.out HB2.out)
                have hs2 := HB2.out.size
                have cT : ∀ d os, Calls Tryz.prog 103 #[.agg #[.int .i64 z, .slice a n cap], .agg #[.int .i64 p, .int .i64 q]] (Go.Sort.grow (redrawn w2 d) os) fun e w'' => e = .returned (.bool (plThere qs (p, q))) ∧ ∃ p : Regrown, w'' = Go.Sort.grow (redrawn w2 p.d) p.os := fun d os => Calls.regrown_of (l9There_any z a n cap qs p q _ (HS1.out.later (below_here HB2.out (below_regrown w2 d os)) (by omega)) (by have := (below_regrown w2 d os).size; omega) hn12 HF.out)
                have k0 := cell_regrown a0
                have k1 := cell_regrown a1
                have k2 := cell_regrown c0
                have k3 := cell_regrown c1
                clear hnone
                go_upto_region 7 with fail
                go_cut [38] (fun c wx => c = .bool (!plThere qs (p, q)) ∧ Below w2.heap.size w2 wx)
                case first =>
                  refine wp_region_quiet_below (by kernel_rfl) (by kernel_rfl) ?_
                  repeat (go_big_quiet_step ((go_at_call 103; exact cT _ _)))
                  refine wpQuiet_nil ?_
                  intro _ hw'
                  obtain ⟨⟨dq, osq⟩, hw''⟩ := hw'
                  subst hw''
                  have HBQ := hide (below_regrown w2 dq osq)
                  go_wp2_with fail
                  go_meet
                  exact ⟨rfl, HBQ.out⟩
                case rest =>
                  obtain ⟨rfl, hb3⟩ := hcut
                  obtain ⟨w3, hw3⟩ : ∃ w3, w3 = wc := ⟨_, rfl⟩
                  subst hw3
                  have HB3 := hide (below_here HB2.out hb3)
                  clear hb3 k0 k1 k2 k3 cT c0 c1 a0 a1
                  cases hth : plThere qs (p, q) with
                  | false =>
                    have HNO := hide (HFA.out (by rw [HPO2.out, hth]; rfl))
                    go_wp2_with fail
                    go_ret
                    exact ⟨ret_bool HNO.out.symm, below_here HB1.out HB3.out⟩
                  | true =>
                    have HPO3 : Hid (plOk qs ps k = (List.range k).all (fun j => plAt ps j != (p, q))) := by show _ = _; rw [HPO2.out, hth]; rfl
                    simp only [Bool.not_true]
                    clear hth
                    go_wp2_with fail
                    obtain ⟨wo, hwo⟩ : ∃ wo, wo = w3 := ⟨_, rfl⟩
                    subst hwo
                    go_loopw [6] (fun t wx => ∃ j : Nat, j ≤ k ∧ t = .int .i64 (j : Int) ∧ (List.range j).all (fun j => plAt ps j != (p, q)) = true ∧ Below w1.heap.size w1 wx) (fun t _ => k - (intOf t).toNat)
                    case atStart => exact ⟨0, Nat.zero_le _, rfl, rfl, HB3.out⟩
                    case round =>
                      obtain ⟨j, hj, rfl, hal, hbj⟩ := hrel
                      have HJA := hide hal
                      have HBJ := hide hbj
                      clear hal
                      by_cases hjl : j < k
                      · obtain ⟨c0, c1⟩ := pl_cells HC.out hbj (show b < w1.heap.size by have := HP1.out.2.1; omega) hlt
                        obtain ⟨d0, d1⟩ := pl_cells HC.out hbj (show b < w1.heap.size by have := HP1.out.2.1; omega) (show j < m by omega)
                        rw [← HY.out] at c0 c1
                        dsimp only at c0 c1
                        have HJF : Hid ((plAt ps j == (p, q)) = true → plOk qs ps k = false) := fun hh => by rw [HPO3.out]; exact all_range_fall hjl (by simp only [bne, hh]; rfl)
                        have HJS : Hid ((plAt ps j == (p, q)) = false → (List.range (j + 1)).all (fun j => plAt ps j != (p, q)) = true) := fun hh => all_range_step HJA.out (by simp only [bne, hh]; rfl)
                        rw [pl_eq] at HJF HJS
                        generalize plAt ps j = y at *
                        obtain ⟨r, t⟩ := y
                        dsimp only at d0 d1 HJF HJS
                        have q1 := Tryz.eqPl r t p q
                        have hlt2 : (k : Int) < (m : Int) := by omega
                        have hlt3 : (j : Int) < (m : Int) := by omega
                        clear hbj
                        cases heq : ((r == p) && (t == q)) with
                        | true =>
                          have HNO := hide (HFA.out (HJF.out heq))
                          rw [heq] at q1
                          go_wp2_with fail
                          go_quiet (fail)
                          go_wp2_with fail
                          go_ret
                          exact ⟨ret_bool HNO.out.symm, by have hh := below_here HB1.out HBJ.out; exact ⟨hh.os, hh.tape, hh.output, hh.size, hh.block⟩⟩
                        | false =>
                          have HOK := hide (HJS.out heq)
                          rw [heq] at q1
                          go_wp2_with fail
                          go_quiet (fail)
                          go_wp2_with fail
                          go_roundw
                          case rel => exact ⟨j + 1, by omega, by go_num, HOK.out, ⟨HBJ.out.os, HBJ.out.tape, HBJ.out.output, HBJ.out.size, HBJ.out.block⟩⟩
                          case measure => simp [intOf]; omega
                      · obtain rfl : j = k := by omega
                        have HOK := hide (HST.out (by rw [HPO3.out]; exact HJA.out))
                        go_wp2_with fail
                        exact ⟨⟨j + 1, by omega, by go_num, HOK.out, HBJ.out⟩, by simp [intOf]; omega⟩
          · obtain rfl : k = m := by omega
            have HE2 : Hid (mapOk z qs ps = true) := by show _ = _; rw [HE.out, HLP.out]; exact HAL.out
            go_wp2_with fail
            go_ret
            exact ⟨ret_bool HE2.out.symm, below_here HB1.out HBB.out⟩
      · have g2 : decide ((m : Int) > 64) = true := by simp; omega
        have HE : Hid (mapOk z qs ps = false) := by show _ = _; unfold mapOk; rw [HLP.out, decide_eq_false h64]; simp
        go_wp2_with fail
        go_ret
        exact ⟨ret_bool HE.out.symm, HB1.out⟩
    · have g1 : decide ((m : Int) < 1) = true := by simp; omega
      have HE : Hid (mapOk z qs ps = false) := by show _ = _; unfold mapOk; rw [HLP.out, decide_eq_false h1]; simp
      go_wp2_with fail
      go_ret
      exact ⟨ret_bool HE.out.symm, HB1.out⟩
end Go.Proofs.YtocinobbocjikaaGreatDoor
end

