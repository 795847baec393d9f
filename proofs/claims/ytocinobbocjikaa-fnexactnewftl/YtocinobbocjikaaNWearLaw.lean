/- Several texts in one: WearLaw, PlaceOwn, WearSpecA, WearSpecC. -/
import Derived.Test.YtocinobbocjikaaNChipGrow
import Derived.Test.YtocinobbocjikaaNChipOwn2
import Derived.Test.YtocinobbocjikaaNChipOkS
import Derived.Deep.QuietTactic
import Derived.BigQuiet
import Derived.Lib.QuietBelow
import Derived.Deep.RegionWith
import Derived.Deep.DeepCutAuto
import Derived.Laws.StructEq
section
namespace Go.Proofs.Ytocinobbocjikaa
open Go.RowKit
set_option linter.unusedVariables false

theorem nodup_lt : ∀ (L : Nat) (l : List Nat), l.Nodup → (∀ x ∈ l, x < L) → l.length ≤ L
  | 0, l, _, h => by
    cases l with
    | nil => exact Nat.le_refl _
    | cons x xs => exact absurd (h x (by simp)) (by omega)
  | L + 1, l, hn, h => by
    by_cases hm : L ∈ l
    · have h1 := nodup_lt L (l.erase L) (hn.erase L) (fun x hx => by
        rw [hn.mem_erase_iff] at hx
        have := h x hx.2
        have := hx.1
        omega)
      rw [List.length_erase_of_mem hm] at h1
      omega
    · have h1 := nodup_lt L l hn (fun x hx => by
        have := h x hx
        by_cases e : x = L
        · subst e; exact absurd hx hm
        · omega)
      omega
/-- The pages of a map that lie in Square b, among the first k. -/
def pagesK (ps : List Pl) (b : Int) (k : Nat) : List Nat := ((ps.take k).filter (fun p => p.1 == b)).map (fun p => p.2.toNat)
theorem take_mem {ps : List Pl} {k : Nat} {x : Pl} (h : x ∈ ps.take k) : ∃ j, j < k ∧ j < ps.length ∧ plAt ps j = x := by
  obtain ⟨j, hj, e⟩ := List.getElem_of_mem h
  rw [List.length_take] at hj
  refine ⟨j, by omega, by omega, ?_⟩
  rw [List.getElem_take] at e
  unfold plAt
  rw [List.getD_eq_getElem?_getD, List.getElem?_eq_getElem (by omega)]
  exact e
theorem plOk_at {z : Int} {qs : List Sq} {ps : List Pl} (h : mapOk z qs ps = true) {i : Nat} (hi : i < ps.length) : plOk qs ps i = true := by
  unfold mapOk at h
  simp only [Bool.and_eq_true] at h
  exact List.all_eq_true.1 h.2.2.2 i (List.mem_range.2 hi)
theorem plOk_page {qs : List Sq} {ps : List Pl} {i b : Nat} (h : plOk qs ps i = true) (hb : (plAt ps i).1 = (b : Int)) : 0 ≤ (plAt ps i).2 ∧ (plAt ps i).2 < ((sqAt qs b).1.length : Int) ∧ ∀ k, k < i → plAt ps k ≠ plAt ps i := by
  unfold plOk at h
  rw [Bool.or_eq_true] at h
  rcases h with h | h
  · have e : plAt ps i = (-1, 0) := by simpa using h
    rw [e] at hb
    have : (-1 : Int) = (b : Int) := hb
    omega
  · rw [Bool.and_eq_true] at h
    obtain ⟨h1, h2⟩ := h
    unfold plThere inB at h1
    simp only [Bool.and_eq_true, decide_eq_true_eq] at h1
    rw [hb, Int.toNat_natCast] at h1
    refine ⟨h1.2.1, by omega, fun k hk e => ?_⟩
    have := List.all_eq_true.1 h2 k (List.mem_range.2 hk)
    simp [e] at this
theorem pagesK_ok {z : Int} {qs : List Sq} {ps : List Pl} (h : mapOk z qs ps = true) (b : Nat) : ∀ k, k ≤ ps.length → (pagesK ps (b : Int) k).Nodup ∧ ∀ x ∈ pagesK ps (b : Int) k, x < (sqAt qs b).1.length
  | 0, _ => by unfold pagesK; simp
  | k + 1, hk => by
    have ih := pagesK_ok h b k (by omega)
    have hkl : k < ps.length := by omega
    have hok := plOk_at h hkl
    have hst : pagesK ps (b : Int) (k + 1) = pagesK ps (b : Int) k ++ (if (plAt ps k).1 == (b : Int) then [(plAt ps k).2.toNat] else []) := by
      unfold pagesK plAt
      rw [List.take_succ_eq_append_getElem hkl, List.filter_append, List.map_append, List.getD_eq_getElem?_getD, List.getElem?_eq_getElem hkl]
      simp only [Option.getD_some, List.filter_cons, List.filter_nil]
      split <;> simp
    by_cases hb : (plAt ps k).1 = (b : Int)
    · have hpg := plOk_page hok hb
      have hbb : ((plAt ps k).1 == (b : Int)) = true := by simpa using hb
      rw [hst, hbb, if_pos rfl]
      refine ⟨?_, fun x hx => ?_⟩
      · rw [List.nodup_append]
        refine ⟨ih.1, List.pairwise_singleton _ _, fun x hx y hy => ?_⟩
        rw [List.mem_singleton] at hy
        subst hy
        intro e
        unfold pagesK at hx
        rw [List.mem_map] at hx
        obtain ⟨u, hu, hu2⟩ := hx
        rw [List.mem_filter] at hu
        obtain ⟨j, hj1, hj2, hj3⟩ := take_mem hu.1
        have hu1 : u.1 = (b : Int) := by simpa using hu.2
        have hpj := plOk_page (plOk_at h hj2) (show (plAt ps j).1 = (b : Int) by rw [hj3]; exact hu1)
        rw [hj3] at hpj
        refine hpg.2.2 j hj1 ?_
        rw [hj3]
        have e2 : u.2 = (plAt ps k).2 := by omega
        have e1 : u.1 = (plAt ps k).1 := by rw [hu1, hb]
        exact Prod.ext e1 e2
      · rw [List.mem_append, List.mem_singleton] at hx
        rcases hx with hx | rfl
        · exact ih.2 x hx
        · omega
    · have hbb : ((plAt ps k).1 == (b : Int)) = false := by simpa using hb
      rw [hst, hbb]
      simpa using ih
/-- No more are Live in a Square than it has pages. -/
theorem live_le {z : Int} {qs : List Sq} {ps : List Pl} (h : mapOk z qs ps = true) (b : Nat) : liveN ps (b : Int) ≤ (sqAt qs b).1.length := by
  have h1 := pagesK_ok h b ps.length (Nat.le_refl _)
  have h2 := nodup_lt _ _ h1.1 h1.2
  unfold pagesK at h2
  rw [List.take_of_length_le (Nat.le_refl _), List.length_map] at h2
  exact h2
theorem leastK_le {z : Int} {qs : List Sq} (h : chipOk z qs = true) : ∀ k, k ≤ qs.length → ∀ j, j < k → (sqAt qs j).2.2 = false → 0 ≤ leastK qs k ∧ leastK qs k ≤ (sqAt qs j).2.1
  | 0, _, j, hj, _ => absurd hj (by omega)
  | k + 1, hk, j, hj, hb => by
    have hw := (sqOk_parts (chipOk_at h (show k < qs.length by omega))).2.1
    unfold leastK
    by_cases e : j = k
    · subst e
      rw [hb]
      simp only [Bool.false_eq_true, if_false]
      split
      · omega
      · omega
    · have ih := leastK_le h k (by omega) j (by omega) hb
      split
      · exact ih
      · split
        · omega
        · exact ih
theorem mostK_ge {qs : List Sq} : ∀ k, ∀ j, j < k → (sqAt qs j).2.2 = false → (sqAt qs j).2.1 ≤ mostK qs k
  | 0, j, hj, _ => absurd hj (by omega)
  | k + 1, j, hj, hb => by
    unfold mostK
    by_cases e : j = k
    · subst e
      rw [hb]
      simp only [Bool.false_eq_true, if_false]
      split
      · omega
      · omega
    · have ih := mostK_ge k j (by omega) hb
      split
      · exact ih
      · split
        · exact ih
        · omega
/-- What FnWear asks of Empty's list. -/
theorem empty_at {z : Int} {qs : List Sq} {i : Nat} (hi : i < (emptyL z qs).length) : ∃ e : Nat, (emptyL z qs).getD i 0 = (e : Int) ∧ e < qs.length ∧ (sqAt qs e).1.length = 0 ∧ (sqAt qs e).2.2 = false ∧ (worn z qs).1 ≤ (sqAt qs e).2.1 ∧ (sqAt qs e).2.1 ≤ (worn z qs).2 ∧
    ∀ j, i = j + 1 → ∃ d : Nat, (emptyL z qs).getD j 0 = (d : Int) ∧ d < qs.length ∧ ((sqAt qs d).2.1 < (sqAt qs e).2.1 ∨ (sqAt qs d).2.1 = (sqAt qs e).2.1 ∧ (d : Int) < (e : Int)) := by
  cases hok : chipOk z qs with
  | false =>
    unfold emptyL at hi
    rw [hok] at hi
    simp at hi
  | true =>
    have hE : emptyL z qs = (emptyK qs qs.length).map (fun (i : Nat) => (i : Int)) := by unfold emptyL; rw [hok]; rfl
    have hW : worn z qs = (leastK qs qs.length, mostK qs qs.length) := by unfold worn; rw [hok]; rfl
    rw [hE, List.length_map] at hi
    have hat : ∀ k, (hk : k < (emptyK qs qs.length).length) → (emptyL z qs).getD k 0 = (((emptyK qs qs.length)[k] : Nat) : Int) := fun k hk => by
      rw [hE, List.getD_eq_getElem?_getD, List.getElem?_map, List.getElem?_eq_getElem hk]; rfl
    have hmem := (emptyK_mem qs qs.length ((emptyK qs qs.length)[i])).1 (List.getElem_mem hi)
    have he := hmem.2
    unfold isEmpty at he
    simp only [Bool.and_eq_true, Bool.not_eq_true', beq_iff_eq] at he
    have hl := leastK_le hok qs.length (Nat.le_refl _) _ hmem.1 he.2
    have hm := mostK_ge qs.length _ hmem.1 he.2
    refine ⟨(emptyK qs qs.length)[i], hat i hi, hmem.1, he.1, he.2, by rw [hW]; exact hl.2, by rw [hW]; exact hm, fun j hj => ?_⟩
    have hji : j < (emptyK qs qs.length).length := by omega
    have hmj := (emptyK_mem qs qs.length ((emptyK qs qs.length)[j])).1 (List.getElem_mem hji)
    have hs := List.pairwise_iff_getElem.1 (emptyK_sorted qs qs.length) j i hji hi (by omega)
    refine ⟨(emptyK qs qs.length)[j], hat j hji, hmj.1, ?_⟩
    unfold aheadW at hs
    omega
/-- What FnWear asks of the victim. -/
theorem victim_at {z : Int} {qs : List Sq} {ps : List Pl} {op : Int} (h : 0 ≤ victim z qs ps op) : ∃ b : Nat, victim z qs ps op = (b : Int) ∧ mapOk z qs ps = true ∧ b < qs.length ∧ (b : Int) ≠ op ∧ (liveN ps (b : Int) : Int) < z ∧ 0 < (sqAt qs b).1.length ∧ (sqAt qs b).2.2 = false ∧ ∀ i, i < qs.length → (i : Int) ≠ op → 0 < (sqAt qs i).1.length → (sqAt qs i).2.2 = false → liveN ps (b : Int) ≤ liveN ps (i : Int) := by
  cases hok : mapOk z qs ps with
  | false => unfold victim at h; rw [hok] at h; simp at h
  | true =>
    have hv : victim z qs ps op = victimV z qs ps op := by unfold victim; rw [hok]; rfl
    rw [hv] at h ⊢
    unfold victimV at h ⊢
    cases hb : bestK qs ps op qs.length with
    | none => rw [hb] at h; simp at h
    | some b =>
      rw [hb] at h
      dsimp only at h ⊢
      have hs := bestK_some hb
      have hlt := bestK_lt hb
      by_cases hz : (liveN ps (b : Int) : Int) = z
      · rw [if_pos hz] at h; omega
      · rw [if_neg hz]
        have hm := hs.1
        unfold mayV at hm
        simp only [Bool.and_eq_true, Bool.not_eq_true', beq_eq_false_iff_ne, ne_eq] at hm
        have hle := live_le hok b
        have hsz := (sqOk_parts (chipOk_at (mapOk_chip hok) hlt)).1
        refine ⟨b, rfl, rfl, hlt, hm.2.2, by omega, by omega, hm.2.1, fun i hi h1 h2 h3 => ?_⟩
        have hmi : mayV qs op i = true := by
          unfold mayV
          have g1 : ((sqAt qs i).1.length == 0) = false := by simp; intro e; rw [e] at h2; simp at h2
          have g2 : ((i : Int) == op) = false := by simpa using h1
          rw [g1, g2, h3]; rfl
        have hn := hs.2 i hi hmi
        unfold lessR rkV9 at hn
        dsimp only at hn
        omega
end Go.Proofs.Ytocinobbocjikaa
end

section
namespace Go.Proofs.Ytocinobbocjikaa
open Go.RowKit
set_option linter.unusedVariables false

/-- Places as cells. -/
def plL (ps : List Pl) : List Value := (List.range (ps.length * 2)).map (cellP ps)
theorem plL_length (ps : List Pl) : (plL ps).length = ps.length * 2 := by simp [plL]
theorem plL_at (ps : List Pl) {j : Nat} (h : j < ps.length * 2) : (plL ps)[j]? = some (cellP ps j) := by
  unfold plL; rw [List.getElem?_map, List.getElem?_range h]; rfl
theorem plAt_snoc_lt (ps : List Pl) (x : Pl) {i : Nat} (h : i < ps.length) : plAt (ps ++ [x]) i = plAt ps i := by
  unfold plAt; rw [List.getD_eq_getElem?_getD, List.getD_eq_getElem?_getD, List.getElem?_append_left h]
theorem plAt_snoc (ps : List Pl) (x : Pl) : plAt (ps ++ [x]) ps.length = x := by
  unfold plAt; rw [List.getD_eq_getElem?_getD, List.getElem?_append_right (Nat.le_refl _)]; simp
theorem plL_snoc (ps : List Pl) (x : Pl) : plL ps ++ [.int .i64 x.1, .int .i64 x.2] = plL (ps ++ [x]) := by
  have hlen : (ps ++ [x]).length = ps.length + 1 := by simp
  refine List.ext_getElem? fun j => ?_
  by_cases h : j < ps.length * 2
  · rw [List.getElem?_append_left (by rw [plL_length]; exact h), plL_at ps h, plL_at _ (by rw [hlen]; omega)]
    unfold cellP
    rw [plAt_snoc_lt ps x (show j / 2 < ps.length by omega)]
  · rw [List.getElem?_append_right (by rw [plL_length]; omega), plL_length]
    by_cases e0 : j = ps.length * 2
    · subst e0
      rw [plL_at _ (by rw [hlen]; omega)]
      unfold cellP
      rw [if_pos (by omega), show ps.length * 2 / 2 = ps.length by omega, plAt_snoc]
      simp
    · by_cases e1 : j = ps.length * 2 + 1
      · subst e1
        rw [plL_at _ (by rw [hlen]; omega)]
        unfold cellP
        rw [if_neg (by omega), show (ps.length * 2 + 1) / 2 = ps.length by omega, plAt_snoc]
        simp
      · rw [List.getElem?_eq_none (by simp; omega), List.getElem?_eq_none (by rw [plL_length, hlen]; omega)]
abbrev PlOwn (B : Nat) (w : World) (v : Value) (ps : List Pl) : Prop := w.ownsRow B 66 2 v ps.length (plL ps)
theorem pl_made0 (w : World) : PlOwn w.heap.size (w.alloc (.cells #[] 66)) (.slice (some ⟨w.heap.size, 0, none⟩) 0 0) [] := by
  have hb : (w.alloc (.cells #[] 66)).heap[w.heap.size]? = some (.cells #[] 66 (0, 0)) := heap_new _ _
  exact ⟨rfl, .inr ⟨w.heap.size, 0, #[], rfl, Nat.le_refl _, hb, Nat.le_refl _, Nat.zero_le _, rfl, rfl⟩⟩
theorem pl_form {B : Nat} {w : World} {v : Value} {ps : List Pl} (h : PlOwn B w v ps) : ∃ a c, v = .slice a ps.length c ∧ ps.length ≤ c := by
  rcases h.2 with ⟨e, h0⟩ | ⟨g, cap, cur, e, _, _, hn, _⟩
  · exact ⟨none, 0, by rw [e, h0], by omega⟩
  · exact ⟨_, cap, e, hn⟩
theorem pl_cap {B : Nat} {w : World} {a : Option Addr} {n cm : Nat} {ps : List Pl} (h : PlOwn B w (.slice a n cm) ps) : ps.length ≤ cm := by
  obtain ⟨a', c', e, h2⟩ := pl_form h
  simp only [Value.slice.injEq] at e
  omega
theorem pl_places {B : Nat} {w : World} {a : Option Addr} {c : Nat} {ps : List Pl} (h : PlOwn B w (.slice a ps.length c) ps) : Places B w.heap.size w a ps.length ps := by
  refine ⟨rfl, Nat.le_refl _, fun h0 => ?_⟩
  rcases h.2 with ⟨_, h1⟩ | ⟨g, cap, cur, e, hg, hgg, _⟩
  · omega
  · simp only [Value.slice.injEq, true_and] at e
    obtain ⟨rfl, rfl⟩ := e
    refine ⟨g, 0, rfl, hg, (Array.getElem?_eq_some_iff.1 hgg).1, fun i hi => ?_⟩
    rw [Nat.zero_add, h.cellAt i (by omega), plL_at ps (by omega)]
theorem pl_some {B : Nat} {w : World} {v : Value} {ps : List Pl} (h : PlOwn B w v ps) (h1 : 1 ≤ ps.length) : ∃ g c, v = .slice (some ⟨g, 0, none⟩) ps.length c ∧ ps.length ≤ c := by
  rcases h.2 with ⟨e, h0⟩ | ⟨g, cap, cur, e, _, _, hn, _⟩
  · omega
  · exact ⟨g, cap, e, hn⟩
theorem cellP_0 (ps : List Pl) : cellP ps 0 = .int .i64 (plAt ps 0).1 := rfl
theorem cellP_1 (ps : List Pl) : cellP ps 1 = .int .i64 (plAt ps 0).2 := rfl
theorem Places.wide {lo lo' hi n : Nat} {w : World} {a : Option Addr} {ps : List Pl} (h : Places lo hi w a n ps) (h1 : lo' ≤ lo) : Places lo' hi w a n ps :=
  ⟨h.1, h.2.1, fun hn => by obtain ⟨b, off, e, h4, h5, h6⟩ := h.2.2 hn; exact ⟨b, off, e, by omega, h5, h6⟩⟩
theorem two_news (w : World) (x y : Int) (t : TypeId) : ∀ j u, [Value.int .i64 x, .int .i64 y][j]? = some u → (w.alloc (.cells #[.int .i64 x, .int .i64 y] t)).cell? ((⟨w.heap.size, 0, none⟩ : Addr).add j) = some u := by
  intro j u hj
  have h := heap_new w (.cells #[.int .i64 x, .int .i64 y] t)
  obtain ⟨c0, c1⟩ := two_cells h
  have hadd : (⟨w.heap.size, 0, none⟩ : Addr).add j = ⟨w.heap.size, j, none⟩ := by unfold Addr.add; split <;> simp_all
  rw [hadd]
  match j, hj with
  | 0, hj => rw [c0]; exact hj
  | 1, hj => rw [c1]; exact hj
  | j + 2, hj => simp at hj
theorem two_oneI (x y : Int) : ∀ u ∈ [Value.int .i64 x, .int .i64 y], u.oneCell' = true := by
  intro u hu
  simp only [List.mem_cons, List.not_mem_nil, or_false] at hu
  rcases hu with rfl | rfl <;> rfl
theorem own_aside2 {w w' : World} {base e s n : Nat} {v : Value} {xs : List Value} (h : w.ownsRow base e s v n xs) {l r : Nat} (hb : Aside l r w w') (hr : r ≤ base) : w'.ownsRow base e s v n xs := by
  obtain ⟨h1, h2⟩ := h
  refine ⟨h1, ?_⟩
  rcases h2 with hn | ⟨g, cap, cur, rfl, hbg, hgg, rest⟩
  · exact .inl hn
  · exact .inr ⟨g, cap, cur, rfl, hbg, (hb.block g (Array.getElem?_eq_some_iff.1 hgg).1 (.inr (by omega))).trans hgg, rest⟩
theorem Try.infoPl9 : (Try.prog.info? 66).map (fun i => (i.zero, i.size, i.bytes)) = some (some (.agg #[.int .i64 0, .int .i64 0]), 2, 16) := by kernel_rfl
end Go.Proofs.Ytocinobbocjikaa
end

section
namespace Go.Proofs.Ytocinobbocjikaa
open Go.RowKit
set_option linter.unusedVariables false
set_option maxRecDepth 20000

set_option maxHeartbeats 800000 in
theorem l9Live_any (a : Option Addr) (n cap : Nat) (ps : List Pl) (s : Int) (w : World) {lo hi : Nat} (h : Places lo hi w a n ps) (hn : n ≤ 1048576) :
    Calls Try.prog 40 #[.slice a n cap, .int .i64 s] w fun e w' => e = .returned (.int .i64 (liveN ps s : Int)) ∧ w = w' := by
  obtain ⟨hl, hx⟩ := h
  have HL := hide hl
  have HX := hide hx
  have hsz := hx.1
  clear hl hx
  go_enter Try.func40, Try.ntmps40
  go_wp2_with fail
  go_loopw [5, 6] (fun t i wr => ∃ k : Nat, k ≤ n ∧ i = .int .i64 (k : Int) ∧ t = .int .i64 (liveN (ps.take k) s : Int) ∧ w = wr) (fun _ i _ => n - (intOf i).toNat)
  case atStart => exact ⟨0, Nat.zero_le _, rfl, by simp [liveN], rfl⟩
  case round =>
    obtain ⟨k, hk, rfl, rfl, rfl⟩ := hrel
    by_cases hlt : k < n
    · obtain ⟨b, off, rfl, _, hb, hc⟩ := HX.out.2 (by omega)
      obtain ⟨c0, c1⟩ := pl_cells hc (Below.refl w.heap.size w) (show b < w.heap.size by omega) hlt
      have HS := hide (liveN_step (show k < ps.length by rw [HL.out]; exact hlt) s)
      have hle := liveN_le (ps.take k) s
      have hle2 : liveN (ps.take k) s ≤ 1048576 := by rw [List.length_take] at hle; omega
      clear hc c1 hle
      generalize liveN (ps.take k) s = q at *
      by_cases he : (plAt ps k).1 = s
      · have g : ((plAt ps k).1 == s) = true := by simpa using he
        have HE : Hid (liveN (ps.take (k + 1)) s = q + 1) := by show _ = _; rw [HS.out, g]; rfl
        generalize (plAt ps k).1 = v at *
        subst he
        go_wp2_with fail
        exact ⟨⟨k + 1, by omega, by go_num, by rw [HE.out]; go_num, trivial⟩, by simp [intOf]; omega⟩
      · have g : ((plAt ps k).1 == s) = false := by simpa using he
        have HE : Hid (liveN (ps.take (k + 1)) s = q) := by show _ = _; rw [HS.out, g]; rfl
        generalize (plAt ps k).1 = v at *
        go_wp2_with fail
        exact ⟨⟨k + 1, by omega, by go_num, by rw [HE.out], trivial⟩, by simp [intOf]; omega⟩
    · have HE : Hid (liveN (ps.take k) s = liveN ps s) := by show _ = _; rw [List.take_of_length_le (by rw [HL.out]; omega)]
      generalize liveN (ps.take k) s = q at *
      go_wp2_with fail
      go_ret
      exact ⟨by rw [← HE.out]; rfl, rfl⟩

theorem freeK_bound {z : Int} {qs : List Sq} (h : chipOk z qs = true) : ∀ k, k ≤ qs.length → 0 ≤ freeK z qs k ∧ freeK z qs k ≤ 8 * (k : Int)
  | 0, _ => by simp [freeK]
  | k + 1, hk => by
    have h1 := freeK_bound h k (by omega)
    have h2 := sqOk_parts (chipOk_at h (show k < qs.length by omega))
    have h3 := (chipOk_parts h).2.1
    rw [freeK_step (by omega)]
    split
    · omega
    · omega

end Go.Proofs.Ytocinobbocjikaa
end

section
namespace Go.Proofs.Ytocinobbocjikaa
open Go.RowKit
set_option linter.unusedVariables false
set_option maxRecDepth 20000

theorem Try.eqPl (a b c d : Int) (w : World) : (Op.equalIn 10000 66 (.agg #[.int .i64 a, .int .i64 b]) (.agg #[.int .i64 c, .int .i64 d])).run Try.prog w = .ok (a == c && b == d) w := by
  have u := Try.underlying2
  have hS : Try.prog.underlying 66 = some (.struct (Try.prog.fieldsOf 66)) := by kernel_rfl
  rw [show (10000 : Nat) = 9999 + 1 from rfl, run_equalIn_agg w 9999 _ _ _ hS (by kernel_rfl)]
  simp only [Program.fieldsOf, Try.underlying66]
  go_simp
  by_cases h1 : a = c <;> by_cases h2 : b = d <;> simp [h1, h2]
theorem Try.guardPl : Try.prog.eqGuardType Try.prog.depth 66 = false := by kernel_rfl
theorem l9None_any (w : World) : Calls Try.prog 44 #[] w fun e w' => e = .returned (.agg #[.int .i64 (-1), .int .i64 0]) ∧ Below w.heap.size w w' := by
  have HB := hide ((Below.refl w.heap.size w).alloc (Nat.le_refl _) (.cells #[.int .i64 (-1), .int .i64 0] 66))
  go_enter Try.func44, Try.ntmps44
  go_wp2_with fail
  refine bodyPost_ret (results_cell rfl rfl (run_loadVar_row _ _ _ _ _ _ _ (heap_new _ _) Try.underlying66 rfl (by kernel_rfl))) rfl ⟨rfl, HB.out⟩

set_option maxHeartbeats 1600000 in
theorem l9There_any (z : Int) (a : Option Addr) (n cap : Nat) (qs : List Sq) (p q : Int) (w : World) {lo hi : Nat} (h : Squares lo hi w a n qs) (hhi : hi ≤ w.heap.size) (hn : n ≤ 12) (hf : ∀ x ∈ qs, sqFits x) :
    Calls Try.prog 45 #[.agg #[.int .i64 z, .slice a n cap], .agg #[.int .i64 p, .int .i64 q]] w fun e w' => e = .returned (.bool (plThere qs (p, q))) ∧ Below w.heap.size w w' := by
  obtain ⟨wA, hwA⟩ : ∃ wA, wA = (w.alloc (.cells #[.int .i64 z, .slice a n cap] 26)).alloc (.cells #[.int .i64 p, .int .i64 q] 66) := ⟨_, rfl⟩
  have hzA : wA.heap.size = w.heap.size + 1 + 1 := by rw [hwA]; simp
  have HBA : Hid (Below w.heap.size w wA) := by rw [hwA]; exact ((Below.refl _ _).alloc (Nat.le_refl _) _).alloc (by simp) _
  have H1 : Hid (wA.heap[w.heap.size]? = some (.cells #[.int .i64 z, .slice a n cap] 26)) := by rw [hwA]; exact heap_old (heap_new _ _)
  have H2 : Hid (wA.heap[w.heap.size + 1]? = some (.cells #[.int .i64 p, .int .i64 q] 66)) := by rw [hwA]; exact heap_at (by simp)
  have HSQ := hide (h.later HBA.out hhi)
  have HL := hide h.1
  have HF := hide hf
  clear h hf
  obtain ⟨a0, a1⟩ := two_cells H1.out
  obtain ⟨b0, b1⟩ := two_cells H2.out
  have HI1 : ∀ w9, Hid (Calls Try.prog 39 #[.int .i64 p, .int .i64 0, .int .i64 ((n : Int) - 1)] w9 fun e w' => e = .returned (.bool (inB p 0 ((n : Int) - 1))) ∧ w9 = w') := fun w9 => l1In_any _ _ _ w9
  by_cases hin : inB p 0 ((n : Int) - 1) = true
  · have hin2 := hin
    unfold inB at hin2
    simp only [Bool.and_eq_true, decide_eq_true_eq] at hin2
    obtain ⟨i, rfl⟩ : ∃ i : Nat, p = (i : Int) := ⟨p.toNat, by omega⟩
    have hlt : i < n := by omega
    have hql : i < qs.length := by rw [HL.out]; exact hlt
    have hlt2 : (i : Int) < (n : Int) := by omega
    obtain ⟨_, A, C, hx, ht⟩ := HSQ.out
    obtain ⟨b, off, rfl, _, hb, hc⟩ := hx.2 (by omega)
    obtain ⟨c0, c1, c2⟩ := sq_cells hc (Below.refl wA.heap.size wA) (show b < wA.heap.size by have := hx.1; omega) hlt
    have hl9 := (sq_fits HF.out hql).2.1
    unfold maxLen at hl9
    have HE : Hid (plThere qs ((i : Int), q) = inB q 0 (((sqAt qs i).1.length : Int) - 1)) := by
      show _ = _
      unfold plThere
      dsimp only
      rw [HL.out, hin]
      simp
    rw [hin] at HI1
    have HI2 : ∀ w9, Hid (Calls Try.prog 39 #[.int .i64 q, .int .i64 0, .int .i64 (((sqAt qs i).1.length : Int) - 1)] w9 fun e w' => e = .returned (.bool (inB q 0 (((sqAt qs i).1.length : Int) - 1))) ∧ w9 = w') := fun w9 => l1In_any _ _ _ w9
    clear hc hx ht hin hin2 c1 c2
    generalize sqAt qs i = y at *
    obtain ⟨ts, zw, bd⟩ := y
    dsimp only at c0 hl9 HE HI2
    generalize inB q 0 ((ts.length : Int) - 1) = bb at *
    go_enter Try.func45, Try.ntmps45
    go_upto_region 1 with fail
    rw [← hwA]
    clear hwA
    go_quiet ((first | (go_at_call_of 39 (Value.int .i64 q); exact Calls.quiet_of_same ((HI2 _).out.mono fun e w' hh => ⟨hh.1, hh.2.symm⟩)) | (go_at_call_of 39 (Value.int .i64 (i : Int)); exact Calls.quiet_of_same ((HI1 _).out.mono fun e w' hh => ⟨hh.1, hh.2.symm⟩))))
    go_wp2_with fail
    go_ret
    exact ⟨ret_bool HE.out.symm, ⟨HBA.out.os, HBA.out.tape, HBA.out.output, HBA.out.size, HBA.out.block⟩⟩
  · have hin' : inB p 0 ((n : Int) - 1) = false := by simpa using hin
    have HE : Hid (plThere qs (p, q) = false) := by show _ = _; unfold plThere; dsimp only; rw [HL.out, hin']; rfl
    rw [hin'] at HI1
    go_enter Try.func45, Try.ntmps45
    go_upto_region 1 with fail
    rw [← hwA]
    clear hwA
    go_quiet ((go_at_call 39; exact Calls.quiet_of_same ((HI1 _).out.mono fun e w' hh => ⟨hh.1, hh.2.symm⟩)))
    go_wp2_with fail
    go_ret
    exact ⟨ret_bool HE.out.symm, ⟨HBA.out.os, HBA.out.tape, HBA.out.output, HBA.out.size, HBA.out.block⟩⟩

theorem pl_eq (a b : Pl) : (a == b) = ((a.1 == b.1) && (a.2 == b.2)) := by
  obtain ⟨a1, a2⟩ := a
  obtain ⟨b1, b2⟩ := b
  rfl

set_option maxHeartbeats 3200000 in
theorem specMapOk_any (z : Int) (a : Option Addr) (n cap : Nat) (qs : List Sq) (al : Option Addr) (m capl : Nat) (ps : List Pl) (w : World) {lo hi lo' hi' : Nat} (h : Squares lo hi w a n qs) (hhi : hi ≤ w.heap.size) (hn : n ≤ 1048576) (hf : ∀ x ∈ qs, sqFits x) (hp : Places lo' hi' w al m ps) (hhi' : hi' ≤ w.heap.size) (hm : m ≤ 1048576) :
    Calls Try.prog 19 #[.agg #[.int .i64 z, .slice a n cap], .slice al m capl] w fun e w' => e = .returned (.bool (mapOk z qs ps)) ∧ Below w.heap.size w w' := by
  obtain ⟨wA, hwA⟩ : ∃ wA, wA = w.alloc (.cells #[.int .i64 z, .slice a n cap] 26) := ⟨_, rfl⟩
  have hzA : wA.heap.size = w.heap.size + 1 := by rw [hwA]; simp
  have HBA : Hid (Below w.heap.size w wA) := by rw [hwA]; exact (Below.refl _ _).alloc (Nat.le_refl _) _
  have H1 : Hid (wA.heap[w.heap.size]? = some (.cells #[.int .i64 z, .slice a n cap] 26)) := by rw [hwA]; exact heap_new _ _
  have HSQ := hide (h.later HBA.out hhi)
  have HPL := hide (hp.later HBA.out hhi')
  have HL := hide h.1
  have HLP := hide hp.1
  have HF := hide hf
  clear h hf hp
  obtain ⟨a0, a1⟩ := two_cells H1.out
  go_enter Try.func19, Try.ntmps19
  go_upto_region 1 with fail
  rw [← hwA]
  clear hwA
  go_wp2_with fail
  refine (specChipOk_any z a n cap qs wA HSQ.out (by omega) hn HF.out).mono ?_
  rintro e w1 ⟨rfl, b1⟩
  have K1 := hide (block_on H1.out b1)
  have HS1 := hide (HSQ.out.later b1 (by omega))
  have HP1 := hide (HPL.out.later b1 (by omega))
  have HB1 := hide (below_here HBA.out b1)
  have hs1 := b1.size
  clear b1 H1 HSQ HPL HBA a0 a1
  cases hok : chipOk z qs with
  | false =>
    have HE : Hid (mapOk z qs ps = false) := by show _ = _; unfold mapOk; rw [hok]; rfl
    go_wp2_with fail
    go_ret
    exact ⟨ret_bool HE.out.symm, HB1.out⟩
  | true =>
    have hn12 : n ≤ 12 := by have := (chipOk_parts hok).2.2.2.1; rw [HL.out] at this; exact this
    by_cases h1 : 1 ≤ m
    · have g1 : decide ((m : Int) < 1) = false := by simp; omega
      by_cases h64 : m ≤ 64
      · have g2 : decide ((m : Int) > 64) = false := by simp; omega
        have HE : Hid (mapOk z qs ps = (List.range ps.length).all (plOk qs ps)) := by
          show _ = _
          unfold mapOk
          rw [hok, HLP.out, decide_eq_true h1, decide_eq_true h64]
          rfl
        clear hok
        go_wp2_with fail
        clear g1 g2
        go_loopw [5] (fun i wr => ∃ k : Nat, k ≤ m ∧ i = .int .i64 (k : Int) ∧ (List.range k).all (plOk qs ps) = true ∧ Below w1.heap.size w1 wr) (fun i _ => m - (intOf i).toNat)
        case atStart => exact ⟨0, Nat.zero_le _, rfl, rfl, Below.refl _ _⟩
        case round =>
          obtain ⟨k, hk, rfl, hall, hbel⟩ := hrel
          have HAL := hide hall
          have HBB := hide hbel
          clear hall
          by_cases hlt : k < m
          · have hpl : k < ps.length := by rw [HLP.out]; exact hlt
            obtain ⟨b, off, rfl, _, hb, hc⟩ := HP1.out.2.2 (by omega)
            obtain ⟨c0, c1⟩ := pl_cells hc hbel (show b < w1.heap.size by have := HP1.out.2.1; omega) hlt
            have HC := hide hc
            have HFA : Hid (plOk qs ps k = false → mapOk z qs ps = false) := fun hh => mapOk_fall hpl hh
            have HST : Hid (plOk qs ps k = true → (List.range (k + 1)).all (plOk qs ps) = true) := fun hh => all_range_step HAL.out hh
            have HPO : Hid (plOk qs ps k = ((((plAt ps k).1 == -1) && ((plAt ps k).2 == 0)) || (plThere qs (plAt ps k) && (List.range k).all (fun j => plAt ps j != plAt ps k)))) := by
              show _ = _
              unfold plOk
              rw [pl_eq]
            clear hc hbel
            obtain ⟨y, hy⟩ : ∃ y, y = plAt ps k := ⟨_, rfl⟩
            have HY := hide hy
            rw [← hy] at c0 c1 HPO
            clear hy
            obtain ⟨p, q⟩ := y
            dsimp only at c0 c1 HPO
            have cN : ∀ d os, Calls Try.prog 44 #[] (Go.Sort.grow (redrawn wr d) os) fun e w'' => e = .returned (.agg #[.int .i64 (-1), .int .i64 0]) ∧ ∃ p : Regrown, w'' = Go.Sort.grow (redrawn wr p.d) p.os := fun d os => Calls.regrown_of (l9None_any _)
            have k0 := cell_regrown c0
            have k1 := cell_regrown c1
            have q1 := Try.eqPl p q (-1) 0
            have q2 := Try.guardPl
            go_upto_region 6 with fail
            go_cut [31] (fun c wx => c = .bool ((p == -1) && (q == 0)) ∧ Below wr.heap.size wr wx)
            case first =>
              refine wp_region_quiet_below (by kernel_rfl) (by kernel_rfl) ?_
              repeat (go_big_quiet_step ((go_at_call 44; exact cN _ _)))
              refine wpQuiet_nil ?_
              intro _ hw'
              obtain ⟨⟨dq, osq⟩, hw''⟩ := hw'
              subst hw''
              have HBQ := hide (below_regrown wr dq osq)
              go_wp2_with fail
              go_meet
              exact ⟨rfl, HBQ.out⟩
            case rest =>
              obtain ⟨rfl, hb2⟩ := hcut
              obtain ⟨w2, hw2⟩ : ∃ w2, w2 = wc := ⟨_, rfl⟩
              subst hw2
              have HB2 := hide (below_here HBB.out hb2)
              clear hb2 k0 k1 cN q1 c0 c1
              cases hnone : ((p == -1) && (q == 0)) with
              | true =>
                have HOK := hide (HST.out (by rw [HPO.out, hnone]; rfl))
                go_wp2_with fail
                exact ⟨⟨k + 1, by omega, by go_num, HOK.out, HB2.out⟩, by simp [intOf]; omega⟩
              | false =>
                have HPO2 : Hid (plOk qs ps k = (plThere qs (p, q) && (List.range k).all (fun j => plAt ps j != (p, q)))) := by show _ = _; rw [HPO.out, hnone]; rfl
                obtain ⟨c0, c1⟩ := pl_cells HC.out HB2.out (show b < w1.heap.size by have := HP1.out.2.1; omega) hlt
                rw [← HY.out] at c0 c1
                dsimp only at c0 c1
                obtain ⟨a0, a1⟩ := two_cells (block_on K1.out HB2.out)
                have hs2 := HB2.out.size
                have cT : ∀ d os, Calls Try.prog 45 #[.agg #[.int .i64 z, .slice a n cap], .agg #[.int .i64 p, .int .i64 q]] (Go.Sort.grow (redrawn w2 d) os) fun e w'' => e = .returned (.bool (plThere qs (p, q))) ∧ ∃ p : Regrown, w'' = Go.Sort.grow (redrawn w2 p.d) p.os := fun d os => Calls.regrown_of (l9There_any z a n cap qs p q _ (HS1.out.later (below_here HB2.out (below_regrown w2 d os)) (by omega)) (by have := (below_regrown w2 d os).size; omega) hn12 HF.out)
                have k0 := cell_regrown a0
                have k1 := cell_regrown a1
                have k2 := cell_regrown c0
                have k3 := cell_regrown c1
                clear hnone
                go_upto_region 7 with fail
                go_cut [38] (fun c wx => c = .bool (!plThere qs (p, q)) ∧ Below w2.heap.size w2 wx)
                case first =>
                  refine wp_region_quiet_below (by kernel_rfl) (by kernel_rfl) ?_
                  repeat (go_big_quiet_step ((go_at_call 45; exact cT _ _)))
                  refine wpQuiet_nil ?_
                  intro _ hw'
                  obtain ⟨⟨dq, osq⟩, hw''⟩ := hw'
                  subst hw''
                  have HBQ := hide (below_regrown w2 dq osq)
                  go_wp2_with fail
                  go_meet
                  exact ⟨rfl, HBQ.out⟩
                case rest =>
                  obtain ⟨rfl, hb3⟩ := hcut
                  obtain ⟨w3, hw3⟩ : ∃ w3, w3 = wc := ⟨_, rfl⟩
                  subst hw3
                  have HB3 := hide (below_here HB2.out hb3)
                  clear hb3 k0 k1 k2 k3 cT c0 c1 a0 a1
                  cases hth : plThere qs (p, q) with
                  | false =>
                    have HNO := hide (HFA.out (by rw [HPO2.out, hth]; rfl))
                    go_wp2_with fail
                    go_ret
                    exact ⟨ret_bool HNO.out.symm, below_here HB1.out HB3.out⟩
                  | true =>
                    have HPO3 : Hid (plOk qs ps k = (List.range k).all (fun j => plAt ps j != (p, q))) := by show _ = _; rw [HPO2.out, hth]; rfl
                    simp only [Bool.not_true]
                    clear hth
                    go_wp2_with fail
                    obtain ⟨wo, hwo⟩ : ∃ wo, wo = w3 := ⟨_, rfl⟩
                    subst hwo
                    go_loopw [6] (fun t wx => ∃ j : Nat, j ≤ k ∧ t = .int .i64 (j : Int) ∧ (List.range j).all (fun j => plAt ps j != (p, q)) = true ∧ Below w1.heap.size w1 wx) (fun t _ => k - (intOf t).toNat)
                    case atStart => exact ⟨0, Nat.zero_le _, rfl, rfl, HB3.out⟩
                    case round =>
                      obtain ⟨j, hj, rfl, hal, hbj⟩ := hrel
                      have HJA := hide hal
                      have HBJ := hide hbj
                      clear hal
                      by_cases hjl : j < k
                      · obtain ⟨c0, c1⟩ := pl_cells HC.out hbj (show b < w1.heap.size by have := HP1.out.2.1; omega) hlt
                        obtain ⟨d0, d1⟩ := pl_cells HC.out hbj (show b < w1.heap.size by have := HP1.out.2.1; omega) (show j < m by omega)
                        rw [← HY.out] at c0 c1
                        dsimp only at c0 c1
                        have HJF : Hid ((plAt ps j == (p, q)) = true → plOk qs ps k = false) := fun hh => by rw [HPO3.out]; exact all_range_fall hjl (by simp only [bne, hh]; rfl)
                        have HJS : Hid ((plAt ps j == (p, q)) = false → (List.range (j + 1)).all (fun j => plAt ps j != (p, q)) = true) := fun hh => all_range_step HJA.out (by simp only [bne, hh]; rfl)
                        rw [pl_eq] at HJF HJS
                        generalize plAt ps j = y at *
                        obtain ⟨r, t⟩ := y
                        dsimp only at d0 d1 HJF HJS
                        have q1 := Try.eqPl r t p q
                        have hlt2 : (k : Int) < (m : Int) := by omega
                        have hlt3 : (j : Int) < (m : Int) := by omega
                        clear hbj
                        cases heq : ((r == p) && (t == q)) with
                        | true =>
                          have HNO := hide (HFA.out (HJF.out heq))
                          rw [heq] at q1
                          go_wp2_with fail
                          go_quiet (fail)
                          go_wp2_with fail
                          go_ret
                          exact ⟨ret_bool HNO.out.symm, by have hh := below_here HB1.out HBJ.out; exact ⟨hh.os, hh.tape, hh.output, hh.size, hh.block⟩⟩
                        | false =>
                          have HOK := hide (HJS.out heq)
                          rw [heq] at q1
                          go_wp2_with fail
                          go_quiet (fail)
                          go_wp2_with fail
                          go_roundw
                          case rel => exact ⟨j + 1, by omega, by go_num, HOK.out, ⟨HBJ.out.os, HBJ.out.tape, HBJ.out.output, HBJ.out.size, HBJ.out.block⟩⟩
                          case measure => simp [intOf]; omega
                      · obtain rfl : j = k := by omega
                        have HOK := hide (HST.out (by rw [HPO3.out]; exact HJA.out))
                        go_wp2_with fail
                        exact ⟨⟨j + 1, by omega, by go_num, HOK.out, HBJ.out⟩, by simp [intOf]; omega⟩
          · obtain rfl : k = m := by omega
            have HE2 : Hid (mapOk z qs ps = true) := by show _ = _; rw [HE.out, HLP.out]; exact HAL.out
            go_wp2_with fail
            go_ret
            exact ⟨ret_bool HE2.out.symm, below_here HB1.out HBB.out⟩
      · have g2 : decide ((m : Int) > 64) = true := by simp; omega
        have HE : Hid (mapOk z qs ps = false) := by show _ = _; unfold mapOk; rw [HLP.out, decide_eq_false h64]; simp
        go_wp2_with fail
        go_ret
        exact ⟨ret_bool HE.out.symm, HB1.out⟩
    · have g1 : decide ((m : Int) < 1) = true := by simp; omega
      have HE : Hid (mapOk z qs ps = false) := by show _ = _; unfold mapOk; rw [HLP.out, decide_eq_false h1]; simp
      go_wp2_with fail
      go_ret
      exact ⟨ret_bool HE.out.symm, HB1.out⟩
end Go.Proofs.Ytocinobbocjikaa
end

