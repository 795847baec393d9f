/- Chapter 19: the model's Linear. -/
import Derived.Test.YtnemncmaaejajaaHistSearch
import Derived.Laws.MakeOwn
namespace Go.Proofs.Ytnemncmaaejajaa
open Go.RowKit
set_option linter.unusedVariables false
set_option linter.unusedSimpArgs false
set_option maxRecDepth 20000

theorem Try.infoB9 : (Try.prog.info? 4).map (fun i => (i.zero, i.size, i.bytes)) = some (some (.bool false), 1, 1) := by kernel_rfl
theorem Try.infoS9 : (Try.prog.info? 9).map (fun i => (i.zero, i.size, i.bytes)) = some (some (.string ByteArray.empty), 1, 16) := by kernel_rfl
def marks0 (n : Nat) : List Bool := List.replicate n false
def texts0 : List ByteArray := [ByteArray.empty, ByteArray.empty, ByteArray.empty]
def linF (L : List O9) : Option (List Int) := if histOk L then srch L (L.length + 1) (marks0 L.length) texts0 [] else none
/-- What Linear answers: an order of one's own. -/
def LinTo (o : Option (List Int)) (w : World) (e : Ending) (w' : World) : Prop :=
  ∃ v, e = .returned (.tuple #[v, .bool o.isSome]) ∧ w'.ownsRow w.heap.size 2 1 v (o.getD []).length ((o.getD []).map (Value.int .i64)) ∧ Below w.heap.size w w'
theorem drew_onH {W : World} {k : Nat} {X : Obj} (h : W.heap[k]? = some X) : W.drew.heap[k]? = some X := h
theorem row_made {W : World} {g n t : Nat} {z : Value} (h : W.heap[g]? = some (.cells (madeCells #[z] n) t)) : W.rowIs g t n (fun _ => z) :=
  ⟨_, h, size_madeCells _ _, fun i hi => by simp [madeCells, hi, Nat.mod_one]⟩
theorem made_marks {W : World} {g n t : Nat} (h : W.heap[g]? = some (.cells (madeCells #[.bool false] n) t)) : OwnBools g (g + 1) W (some ⟨g, 0, none⟩) n (marks0 n) :=
  have hg : g < W.heap.size := (Array.getElem?_eq_some_iff.1 h).1
  ⟨by simp [marks0], (owned_of_row (row_made h) (Nat.le_refl _) (Nat.lt_succ_self _) hg).congr fun i hi => by simp [cellO, marks0, List.getD_eq_getElem?_getD, hi]⟩
theorem made_texts {W : World} {g t : Nat} (h : W.heap[g]? = some (.cells (madeCells #[.string ByteArray.empty] 3) t)) : OwnTexts g (g + 1) W (some ⟨g, 0, none⟩) 3 texts0 :=
  have hg : g < W.heap.size := (Array.getElem?_eq_some_iff.1 h).1
  ⟨rfl, (owned_of_row (row_made h) (Nat.le_refl _) (Nat.lt_succ_self _) hg).congr fun i hi => by
    match i, hi with
    | 0, _ | 1, _ | 2, _ => rfl⟩
theorem histK_at {L : List O9} : ∀ {k : Nat}, histK L k = true → ∀ i, i < k → o9Ok (o9At L i) = true
  | 0, _, _, hi => absurd hi (Nat.not_lt_zero _)
  | k + 1, h, i, hi => by
    have h2 : (histK L k && (o9Ok (o9At L k) && apartK L k k)) = true := h
    simp only [Bool.and_eq_true] at h2
    rcases Nat.lt_or_ge i k with c | c
    · exact histK_at h2.1 i c
    · rw [show i = k by omega]; exact h2.2.1
theorem histOk_len {L : List O9} (h : histOk L = true) : L.length ≤ 12 := by unfold histOk at h; simp at h; exact h.1
theorem histOk_ats {L : List O9} (h : histOk L = true) : ∀ i, i < L.length → 0 ≤ (o9At L i).a ∧ (o9At L i).a ≤ 2 := fun i hi => by
  unfold histOk at h
  simp only [Bool.and_eq_true] at h
  have := histK_at h.2 i hi
  unfold o9Ok at this
  simp only [Bool.and_eq_true] at this
  simpa [inB] using this.1
theorem lin_search {a : Option Addr} {n cap : Nat} {L : List O9} {w1 : World} {lo0 hi0 : Nat} (hL : Ops9 lo0 hi0 w1 a n L) (hok : histOk L = true) (W : World) (gu gv go : Nat) (hb : Below w1.heap.size w1 W) (hu : W.heap[gu]? = some (.cells (madeCells #[.bool false] n) 4)) (hv : W.heap[gv]? = some (.cells (madeCells #[.string ByteArray.empty] 3) 9)) (h1 : w1.heap.size ≤ gu) (h2 : w1.heap.size ≤ gv) (hne : gu ≠ gv) :
    Calls Try.prog 41 #[.slice a n cap, .slice (some ⟨gu, 0, none⟩) n n, .slice (some ⟨gv, 0, none⟩) 3 3, .slice (some ⟨go, 0, none⟩) 0 0] W (LinTo (linF L) w1) := by
  have hl := hL.1
  have h12 := histOk_len hok
  have hgu : gu < W.heap.size := (Array.getElem?_eq_some_iff.1 hu).1
  have hgv : gv < W.heap.size := (Array.getElem?_eq_some_iff.1 hv).1
  have hun : unstood (marks0 n) = n := by simp [unstood, marks0]
  have key := l19Search_any a n cap L (some ⟨gu, 0, none⟩) n (some ⟨gv, 0, none⟩) 3 (lo := w1.heap.size) (hi := W.heap.size) (bu := gu) (bv := gv) (by omega) (fun i hi => histOk_ats hok i (by omega)) ⟨h1, hgu⟩ ⟨h2, hgv⟩ hne hL.2.1 (n + 1) (marks0 n) texts0 (some ⟨go, 0, none⟩) 0 0 [] W (hL.later hb hL.2.1) (made_marks hu) (made_texts hv) (Nat.le_refl _) ⟨rfl, Nat.le_refl W.heap.size, fun h => absurd h (Nat.lt_irrefl _)⟩ (.inr (Nat.le_refl W.heap.size)) (Nat.le_refl _) (by omega) (by omega)
  refine key.mono ?_
  rintro e w' ⟨v, rfl, ho, _, _, ha⟩
  have hlf : linF L = srch L (n + 1) (marks0 n) texts0 [] := by unfold linF; rw [if_pos hok, hl]
  exact ⟨v, by rw [hlf], by rw [hlf]; exact own_monoH ho hb.size, hb.trans (ha.below (Nat.le_refl _) hb.size)⟩

set_option maxHeartbeats 6400000 in
theorem specLinear_any (a : Option Addr) (n cap : Nat) (L : List O9) (w : World) {lo hi : Nat} (h : Ops9 lo hi w a n L) (hn : n ≤ 9223372036854775807) :
    Calls Try.prog 19 #[.slice a n cap] w (LinTo (linF L) w) := by
  have HH := hide h
  have HC := hide (specHistoryOk_any a n cap L w h hn)
  clear h
  go_enter Try.func19, Try.ntmps19
  go_wp2_with fail
  refine HC.out.mono ?_
  rintro e w1 ⟨rfl, b1⟩
  have HB1 := hide b1
  clear b1 HC
  obtain ⟨q, hq⟩ : ∃ q, histOk L = q := ⟨_, rfl⟩
  have HQ := hide hq
  rw [hq]
  clear hq
  cases q with
  | false =>
    have HN : Hid (linF L = none) := by show _ = _; unfold linF; rw [HQ.out]; rfl
    go_wp2_with fail
    go_ret2
    rw [HN.out]
    exact ⟨.slice (some ⟨w1.heap.size, 0, none⟩) 0 0, rfl, own_monoH (own_made0 w1 2) HB1.out.size, HB1.out.alloc HB1.out.size _⟩
  | true =>
    have HZ : Hid (n ≤ 12) := by show n ≤ 12; rw [← HH.out.1]; exact histOk_len HQ.out
    have HH1 := hide (HH.out.later HB1.out HH.out.2.1)
    have HR0 : Hid (Below w1.heap.size w1 w1) := Below.refl _ _
    have HLS := hide (lin_search (cap := cap) HH1.out HQ.out)
    have hmkB : ∀ W : World, (Instr.makeSlice 52 (.int .i64 (n : Int)) (.int .i64 (n : Int))).run Try.prog W = .ok (.slice (some ⟨W.heap.size, 0, none⟩) n n) (W.alloc (.cells (madeCells #[.bool false] n) 4)) := fun W => run_make_row' (P := Try.prog) 52 4 (.bool false) 1 Try.underlying52 Try.infoB9 rfl .i64 .i64 n (by have := HZ.out; omega) (by have := HZ.out; omega) W
    have hmkS : ∀ W : World, (Instr.makeSlice 53 (.int .i64 3) (.int .i64 3)).run Try.prog W = .ok (.slice (some ⟨W.heap.size, 0, none⟩) 3 3) (W.alloc (.cells (madeCells #[.string ByteArray.empty] 3) 9)) := fun W => run_make_row' (P := Try.prog) 53 9 (.string ByteArray.empty) 16 Try.underlying53 Try.infoS9 rfl .i64 .i64 3 (by omega) (by omega) W
    go_upto_region 3 with fail
    go_region_held3 (fun W => True)
      (trivial)
      (first | (go_at_call 41
                refine (HLS.out _ _ _ _ ?ba ?bb ?bc ?bd ?be ?bf).mono ?_
                (case ba => repeat (first | with_reducible exact HR0.out | with_reducible apply bq_drew | with_reducible apply bq_alloc))
                (case bb => repeat (first | (refine heap_at ?_; (simp; done)) | with_reducible refine drew_onH ?_ | with_reducible refine heap_old ?_))
                (case bc => repeat (first | (refine heap_at ?_; (simp; done)) | with_reducible refine drew_onH ?_ | with_reducible refine heap_old ?_))
                (case bd => first | omega | (simp; done) | (simp; omega))
                (case be => first | omega | (simp; done) | (simp; omega))
                (case bf => first | omega | (simp; done) | (simp; omega))
                rintro e w2 ⟨v, rfl, ho, hb⟩
                have HO := hide ho
                have HB2 := hide hb
                clear ho hb)
             | fail)
    all_goals
      go_wp2_with fail
      go_ret2
      exact ⟨v, rfl, own_monoH HO.out HB1.out.size, HB1.out.trans (HB2.out.mono HB1.out.size)⟩
end Go.Proofs.Ytnemncmaaejajaa
