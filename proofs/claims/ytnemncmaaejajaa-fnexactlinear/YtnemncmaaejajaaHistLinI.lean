/- Chapter 19, the program: Linear. -/
import Derived.Test.YtnemncmaaejajaaHistImplG
namespace Go.Proofs.Ytnemncmaaejajaa
open Go.RowKit
set_option linter.unusedVariables false
set_option linter.unusedSimpArgs false
set_option maxRecDepth 20000

theorem firstS_all {g : Nat → Option (List Int)} {p : List Int → Prop} : ∀ (d k : Nat), (∀ i, k ≤ i → i < k + d → ∀ r, g i = some r → p r) → ∀ r, firstS g d k = some r → p r
  | 0, _, _, _, h => by cases h
  | d + 1, k, hg, r, h => by
    have h2 : (g k).orElse (fun _ => firstS g d (k + 1)) = some r := h
    cases hk : g k with
    | some x =>
      rw [hk] at h2
      have : x = r := by simpa using h2
      subst this
      exact hg k (Nat.le_refl _) (by omega) _ hk
    | none =>
      rw [hk] at h2
      exact firstS_all d (k + 1) (fun i h1 h2 => hg i (by omega) (by omega)) r h2
theorem srch_size (L : List O9) : ∀ (f : Nat) (us : List Bool) (vs : List ByteArray) (ps r : List Int), us.length = L.length → srch L f us vs ps = some r → r.length ≤ ps.length + unstood us
  | 0, _, _, _, _, _, h => by cases h
  | f + 1, us, vs, ps, r, hl, h => by
    cases hs : stoodK L us L.length with
    | true => rw [srch_stood hs] at h; simp only [Option.some.injEq] at h; subst h; omega
    | false =>
      rw [srch_ask hs] at h
      refine firstS_all (p := fun r => r.length ≤ ps.length + unstood us) L.length 0 (fun i _ hi r hr => ?_) r h
      unfold askS at hr
      cases hn : nx L us i vs with
      | false => rw [hn] at hr; cases hr
      | true =>
        rw [hn] at hr
        have h1 := srch_size L f _ _ _ r (by rw [List.length_set]; exact hl) hr
        have h2 := unstood_set (us := us) (i := i) (by omega) (nx_un hn)
        rw [List.length_append] at h1
        simp at h1
        omega
theorem srch_len (L : List O9) (h : L.length ≤ 12) : ((srch L (L.length + 1) (marks0 L.length) texts0 []).getD []).length ≤ 12 := by
  cases hs : srch L (L.length + 1) (marks0 L.length) texts0 [] with
  | none => simp
  | some r =>
    have := srch_size L _ _ _ _ r (by simp [marks0]) hs
    rw [show unstood (marks0 L.length) = L.length by simp [unstood, marks0]] at this
    show r.length ≤ 12
    simp at this
    omega
set_option maxHeartbeats 3200000 in
theorem implLinear_any (a : Option Addr) (n cap : Nat) (L : List O9) (w : World) {lo hi : Nat} (h : Ops9 lo hi w a n L) (hn : n ≤ 9223372036854775807) (hcap : n ≤ cap) :
    Calls Try.prog 20 #[.slice a n cap] w (LinTo (linF L) w) := by
  have HH := hide h
  have HLN := hide h.1
  have HC := hide (implHistoryOk_any a n cap L w h hn hcap)
  clear h
  go_enter Try.func20, Try.ntmps20
  go_wp2_with fail
  refine HC.out.mono ?_
  rintro e w1 ⟨rfl, b1⟩
  have HB1 := hide b1
  clear b1 HC
  obtain ⟨q, hq⟩ : ∃ q, histOk L = q := ⟨_, rfl⟩
  have HQ := hide hq
  rw [hq]
  clear hq
  cases q with
  | false =>
    have HN : Hid (linF L = none) := by show _ = _; unfold linF; rw [HQ.out]; rfl
    go_wp2_with fail
    go_ret2
    rw [HN.out]
    exact ⟨.slice none 0 0, rfl, ⟨rfl, .inl ⟨rfl, rfl⟩⟩, HB1.out⟩
  | true =>
    have HZ : Hid (n ≤ 12) := by show n ≤ 12; rw [← HLN.out]; exact histOk_len HQ.out
    have HTR := hide (trialOf_any a n cap L w1 (HH.out.later HB1.out HH.out.2.1) HZ.out)
    go_wp2_with fail
    refine HTR.out.mono ?_
    rintro e w2 ⟨v, rfl, ho2, b2⟩
    obtain ⟨at_, ct, rfl, _, hl2, _, hown2⟩ := owned_of_own ho2
    have HT2 : Hid (Ints w1.heap.size w2.heap.size w2 at_ n (txNos L)) := ⟨by unfold txNos; rw [List.length_map]; exact HLN.out, (hown2.congr (fun j hj => map_cell _ j (by unfold txNos; rw [List.length_map, HLN.out]; exact hj))).reads⟩
    have HB2 := hide (below_here HB1.out b2)
    clear b2 ho2 hown2 hl2 HTR
    have hmk : (Instr.makeMap 66 none).run Try.prog w2 = .ok (.map (some w2.heap.size)) (w2.alloc (.map #[] 0)) := by kernel_rfl
    obtain ⟨w3, hw3⟩ : ∃ w3, w3 = (w2.alloc (.map #[] 0)).alloc (.cells #[.slice a n cap, .slice at_ n ct, .slice none 0 0, .map (some w2.heap.size)] 68) := ⟨_, rfl⟩
    have HB3 : Hid (Below w2.heap.size w2 w3) := by rw [hw3]; exact ((Below.refl _ _).alloc (Nat.le_refl _) _).alloc (by simp) _
    have HG3 : Hid (GAt w2.heap.size (w2.heap.size + 1) w2.heap.size (.slice a n cap) (.slice at_ n ct) w3 (.slice none 0 0) [] 0 (fun _ _ _ _ => false)) := by
      rw [hw3]
      exact ⟨heap_at (by simp), ⟨rfl, .inl ⟨rfl, rfl⟩⟩, (setAt_made w2).kept (by rw [heap_old (heap_new w2 _)]; exact (heap_new w2 _).symm), Nat.le_succ _, Nat.le_refl _⟩
    go_upto_region 4 with fail
    rw [← hw3]
    clear hw3 hmk
    go_wp2_with fail
    refine (newStanding_any w3).mono ?_
    rintro e w4 ⟨rfl, b4⟩
    have HG4 := hide (HG3.out.later b4)
    have HB4 : Hid (Below w2.heap.size w2 w4) := below_here HB3.out b4
    clear b4 HG3 HB3
    have HGO : Hid (Calls Try.prog 42 #[.pointer (some ⟨w2.heap.size + 1, 0, none⟩), stV 0 (-1) (-1) (-1)] w4 (GoesTo L w2.heap.size (w2.heap.size + 1) w2.heap.size (.slice a n cap) (.slice at_ n ct) (.slice none 0 0) [] 0 (13 ^ (n + 1)) (srch L (n + 1) (marks0 n) texts0 []) w4)) := by
      have h := goesOn_any a n cap L at_ ct (B := w2.heap.size) (gs := w2.heap.size + 1) (gm := w2.heap.size) HQ.out HLN.out (Nat.le_trans HH.out.2.1 HB2.out.size) HT2.out.2.1 (n + 1) (marks0 n) texts0 [] (.slice none 0 0) 0 _ w4 (HH.out.later (HB2.out.trans (HB4.out.mono HB2.out.size)) HH.out.2.1) (HT2.out.later HB4.out HT2.out.2.1) HB4.out.size HG4.out (vain_none L) (by simp [marks0]) (VsOk.zero L) (by simp [unstood, marks0]) (by simp [unstood, marks0]; have := HZ.out; omega) (by rw [Nat.zero_add]; exact Nat.pow_le_pow_right (by omega) (by have := HZ.out; omega))
      have e := (st_first L).1
      rw [HLN.out] at e
      rw [e] at h
      exact h
    go_wp2_with fail
    refine HGO.out.mono ?_
    rintro e w5 ⟨rfl, v5, c5, F5, hG5, -, -, hS5⟩
    have HG5 := hide hG5
    have HB5 : Hid (Below w.heap.size w w5) := HB2.out.trans ((HB4.out.trans (hS5.below (Nat.le_succ _) (Nat.le_refl _) HG4.out.own HB4.out.size)).mono HB2.out.size)
    have HLF : Hid (linF L = srch L (n + 1) (marks0 n) texts0 []) := by show _ = _; unfold linF; rw [HQ.out, if_pos rfl, HLN.out]
    clear hG5 hS5 HGO
    obtain ⟨r, hr⟩ : ∃ r, srch L (n + 1) (marks0 n) texts0 [] = r := ⟨_, rfl⟩
    rw [hr] at HG5 HLF
    rw [hr]
    clear hr
    cases r with
    | none =>
      go_wp2_with fail
      go_ret2
      rw [HLF.out]
      exact ⟨.slice none 0 0, rfl, ⟨rfl, .inl ⟨rfl, rfl⟩⟩, HB5.out⟩
    | some o =>
      obtain ⟨e0, e1, e2, e3⟩ := four_cells HG5.out.s
      go_wp2_with fail
      go_ret2
      rw [HLF.out]
      exact ⟨v5, rfl, own_monoH HG5.out.o HB2.out.size, HB5.out⟩
end Go.Proofs.Ytnemncmaaejajaa
