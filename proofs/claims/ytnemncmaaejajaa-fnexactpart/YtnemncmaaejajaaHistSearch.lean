/- Chapter 19: the model's search. -/
import Derived.Test.YtnemncmaaejajaaHistCopy
import Derived.Deep.RegionHeld3
import Derived.Deep.RegionLaw
import Derived.Lib.AppendZeros
import Derived.Deep.CutRange
namespace Go.Proofs.Ytnemncmaaejajaa
open Go.RowKit
set_option linter.unusedVariables false
set_option linter.unusedSimpArgs false
set_option maxRecDepth 20000

/-- What the search answers: an order of one's own; what stood stands as it was. -/
def SrchTo (o : Option (List Int)) (lo hi bu bv : Nat) (au : Option Addr) (n : Nat) (us : List Bool) (av : Option Addr) (vs : List ByteArray) (w : World) (e : Ending) (w' : World) : Prop :=
  ∃ v, e = .returned (.tuple #[v, .bool o.isSome]) ∧ w'.ownsRow w.heap.size 2 1 v (o.getD []).length ((o.getD []).map (Value.int .i64)) ∧ OwnBools bu (bu + 1) w' au n us ∧ OwnTexts bv (bv + 1) w' av 3 vs ∧ Aside lo hi w w'
/-- What is held within the search. -/
structure SrIn (lo hi bu bv : Nat) (au : Option Addr) (n : Nat) (us : List Bool) (av : Option Addr) (vs : List ByteArray) (w w' : World) : Prop where
  u : OwnBools bu (bu + 1) w' au n us
  v : OwnTexts bv (bv + 1) w' av 3 vs
  a : Aside lo hi w w'
theorem SrIn.after {lo hi bu bv n : Nat} {au av : Option Addr} {us : List Bool} {vs : List ByteArray} {w w1 w2 : World} (h : SrIn lo hi bu bv au n us av vs w w1) (hu : bu < hi) (hv : bv < hi) (hs : hi ≤ w.heap.size) (b : Below w1.heap.size w1 w2) : SrIn lo hi bu bv au n us av vs w w2 :=
  have := h.a.size
  ⟨h.u.later b (by omega), h.v.later b (by omega), h.a.trans ⟨b.os, b.tape, b.output, b.size, fun k hk _ => b.block k hk⟩⟩
theorem SrIn.mark {lo hi bu bv n : Nat} {ou : Nat} {av : Option Addr} {us : List Bool} {vs : List ByteArray} {w w1 : World} (h : SrIn lo hi bu bv (some ⟨bu, ou, none⟩) n us av vs w w1) (hu : lo ≤ bu ∧ bu < hi) (hne : bu ≠ bv) {i : Nat} (hi9 : i < n) (q : Bool) : SrIn lo hi bu bv (some ⟨bu, ou, none⟩) n (us.set i q) av vs w (w1.setCell ⟨bu, ou + i, none⟩ (.bool q)) := by
  have hl := h.u.1
  refine ⟨⟨by rw [List.length_set]; exact hl, (h.u.2.set hi9 (.bool q)).congr fun j hj => ?_⟩, ?_, h.a.setCell (p := ⟨bu, ou + i, none⟩) hu.1 hu.2 _⟩
  · unfold cellO
    by_cases e : j = i
    · subst e; rw [if_pos rfl, List.getD_eq_getElem?_getD, List.getElem?_set_self (by omega)]; rfl
    · rw [if_neg e, List.getD_eq_getElem?_getD, List.getD_eq_getElem?_getD, List.getElem?_set_ne (fun x => e x.symm)]
  · exact h.v.aside ((Aside.refl bu (bu + 1) w1).setCell (p := ⟨bu, ou + i, none⟩) (Nat.le_refl _) (Nat.lt_succ_self _) _) (by omega)
theorem SrIn.write {lo hi bu bv n : Nat} {ov : Nat} {au : Option Addr} {us : List Bool} {vs : List ByteArray} {w w1 : World} (h : SrIn lo hi bu bv au n us (some ⟨bv, ov, none⟩) vs w w1) (hv : lo ≤ bv ∧ bv < hi) (hne : bu ≠ bv) {i : Nat} (hi9 : i < 3) (q : ByteArray) : SrIn lo hi bu bv au n us (some ⟨bv, ov, none⟩) (vs.set i q) w (w1.setCell ⟨bv, ov + i, none⟩ (.string q)) := by
  have hl := h.v.1
  refine ⟨?_, ⟨by rw [List.length_set]; exact hl, (h.v.2.set hi9 (.string q)).congr fun j hj => ?_⟩, h.a.setCell (p := ⟨bv, ov + i, none⟩) hv.1 hv.2 _⟩
  · exact h.u.aside ((Aside.refl bv (bv + 1) w1).setCell (p := ⟨bv, ov + i, none⟩) (Nat.le_refl _) (Nat.lt_succ_self _) _) (by omega)
  · unfold cellT
    by_cases e : j = i
    · subst e; rw [if_pos rfl, List.getD_eq_getElem?_getD, List.getElem?_set_self (by omega)]; rfl
    · rw [if_neg e, List.getD_eq_getElem?_getD, List.getD_eq_getElem?_getD, List.getElem?_set_ne (fun x => e x.symm)]
theorem SrIn.drew1 {lo hi bu bv n : Nat} {au av : Option Addr} {us : List Bool} {vs : List ByteArray} {w w1 : World} (h : SrIn lo hi bu bv au n us av vs w w1) : SrIn lo hi bu bv au n us av vs w w1.drew := ⟨h.u, h.v, ⟨h.a.os, h.a.tape, h.a.output, h.a.size, h.a.block⟩⟩
theorem SrIn.drew {lo hi bu bv n : Nat} {au av : Option Addr} {us : List Bool} {vs : List ByteArray} {w w1 : World} (h : SrIn lo hi bu bv au n us av vs w w1) (d : Nat) : SrIn lo hi bu bv au n us av vs w (w1.drewN d) := ⟨h.u, h.v, ⟨h.a.os, h.a.tape, h.a.output, h.a.size, h.a.block⟩⟩
/-- The cells of one's own: the i-th mark. -/
theorem own_mark {bu n : Nat} {w : World} {au : Option Addr} {us : List Bool} (h : OwnBools bu (bu + 1) w au n us) (hn : 0 < n) : ∃ ou, au = some ⟨bu, ou, none⟩ ∧ ∀ i, i < n → w.cell? ⟨bu, ou + i, none⟩ = some (.bool (us.getD i false)) ∧ w.frozen? ⟨bu, ou + i, none⟩ = false := by
  obtain ⟨b, off, e, h1, h2, hc⟩ := h.2.2 hn
  obtain rfl : b = bu := by omega
  exact ⟨off, e, hc⟩
theorem own_text {bv : Nat} {w : World} {av : Option Addr} {vs : List ByteArray} (h : OwnTexts bv (bv + 1) w av 3 vs) : ∃ ov, av = some ⟨bv, ov, none⟩ ∧ ∀ i, i < 3 → w.cell? ⟨bv, ov + i, none⟩ = some (.string (vs.getD i ByteArray.empty)) ∧ w.frozen? ⟨bv, ov + i, none⟩ = false := by
  obtain ⟨b, off, e, h1, h2, hc⟩ := h.2.2 (by omega)
  obtain rfl : b = bv := by omega
  exact ⟨off, e, hc⟩
theorem isSome_none (f : Nat → Option (List Int)) : ∀ d k, (∀ i, f i = none) → firstS f d k = none
  | 0, _, _ => rfl
  | d + 1, k, h => by show (f k).orElse _ = none; rw [h k]; exact isSome_none f d (k + 1) h
theorem step_app2 {P : Program} {ops : Array Oper} {o : Oper} {a : Act} {w : World} {K : Act → World → Prop} {Q : Exit → Act → World → Prop} {E : Prop}
    (hg : o.guard = none) (s x : Operand) (t : TypeId) (hop : o.op = Op.call { callee := Callee.builtin Builtin.append, args := #[s, x], argTypes := #[t, t] })
    (v1 v2 : Value) (hs : a.eval s = v1) (hx : a.eval x = v2) {G : Value → World → Prop} (hrun : ∃ v' w', (Builtin.append_ #[t, t] o.type #[v1, v2]).run P w = .ok v' w' ∧ G v' w')
    (hK : ∀ v' w', G v' w' → K (a.put o.dst v') w') : if Region.wanted o (yielded ops a.tmps) = true then Oper.wp P o a w K Q else E := by
  obtain ⟨v', w', hr, h2⟩ := hrun
  have hw : Region.wanted o (yielded ops a.tmps) = true := by simp [Region.wanted, hg]
  rw [if_pos hw]
  unfold Oper.wp
  simp [execOp, hop, resolve, invoke, builtin, hs, hx, hr, Result.andThen]
  exact hK v' w' h2
/-- What the first append comes to. -/
def CopyTo (B m : Nat) (ps : List Int) (q W : World) (L : Nat) (v' : Value) (w' : World) : Prop :=
  ∃ a5 c5, v' = .slice a5 m c5 ∧ w'.ownsRow B 2 1 (.slice a5 m c5) m (ps.map (Value.int .i64)) ∧ Below q.heap.size q w' ∧ (∀ k X, W.heap[k]? = some X → k ≠ L → w'.heap[k]? = some X)
theorem copy_first {q : World} {lo hi m c : Nat} {a : Option Addr} {ps : List Int} (hx : Ints lo hi q a m ps) (hh : hi ≤ q.heap.size) (hm : m ≤ 1000) (W : World) (L : Nat) (hb : Below q.heap.size q W) (hL : q.heap.size ≤ L) (h : W.heap[L]? = some (.cells #[] 2)) :
    ∃ v' w', (Builtin.append_ #[31, 31] 31 #[.slice (some ⟨L, 0, none⟩) 0 0, .slice a m c]).run Try.prog W = .ok v' w' ∧ CopyTo q.heap.size m ps q W L v' w' := by
  have ho : W.ownsRow q.heap.size 2 1 (.slice (some ⟨L, 0, none⟩) 0 0) 0 [] := ⟨rfl, .inr ⟨L, 0, #[], rfl, hL, h, Nat.le_refl _, Nat.zero_le _, rfl, rfl⟩⟩
  obtain ⟨v', w', h1, h2, h3⟩ := copied_ints (c := c) ho (hx.later hb hh) (by omega) hb.size
  obtain ⟨a5, c5, rfl, _⟩ := owned_of_own h2
  refine ⟨_, w', h1, a5, c5, rfl, h2, hb.grown h3 hb.size (fun k e => by simp only [Option.some.injEq] at e; omega), fun k X hk hne => ?_⟩
  exact (h3.block k (Array.getElem?_eq_some_iff.1 hk).1 (fun e => hne (by simp only [Option.some.injEq] at e; exact e))).trans hk
/-- What the second one comes to. -/
def NextTo (B m : Nat) (ps : List Int) (i : Int) (q : World) (v' : Value) (w' : World) : Prop :=
  ∃ a5 c5, v' = .slice a5 (m + 1) c5 ∧ Ints B w'.heap.size w' a5 (m + 1) (ps ++ [i]) ∧ Below q.heap.size q w'
theorem copy_next {q : World} {m : Nat} {ps : List Int} (hl : ps.length = m) (i : Int) (hm : m ≤ 1000) (W : World) (a5 : Option Addr) (c5 L : Nat) (hb : Below q.heap.size q W) (ho : W.ownsRow q.heap.size 2 1 (.slice a5 m c5) m (ps.map (Value.int .i64))) (h : W.heap[L]? = some (.cells #[.int .i64 i] 2)) :
    ∃ v' w', (Builtin.append_ #[31, 31] 31 #[.slice a5 m c5, .slice (some ⟨L, 0, none⟩) 1 1]).run Try.prog W = .ok v' w' ∧ NextTo q.heap.size m ps i q v' w' := by
  obtain ⟨v', w', h1, h2, h3⟩ := added_int (c := 1) ho h (by omega) hb.size
  obtain ⟨a7, c7, rfl, _, _, _, how⟩ := owned_of_own h2
  exact ⟨_, w', h1, a7, c7, rfl, ⟨by rw [List.length_append, hl]; rfl, (how.congr (fun j hj => map_cell _ j (by rw [List.length_append, hl]; exact hj))).reads⟩, hb.grown h3 hb.size (fun k e => (World.ownsRow.lt ho k e).1)⟩
theorem own_asideH {w w' : World} {base e n : Nat} {v : Value} {xs : List Value} (h : w.ownsRow base e 1 v n xs) {l r : Nat} (hb : Aside l r w w') (hr : r ≤ base) : w'.ownsRow base e 1 v n xs := by
  obtain ⟨h1, h2⟩ := h
  refine ⟨h1, ?_⟩
  rcases h2 with hn | ⟨g, cap, cur, rfl, hbg, hgg, rest⟩
  · exact .inl hn
  · exact .inr ⟨g, cap, cur, rfl, hbg, (hb.block g (Array.getElem?_eq_some_iff.1 hgg).1 (.inr (by omega))).trans hgg, rest⟩
theorem own_monoH {B B' e s n : Nat} {v : Value} {xs : List Value} {w : World} (h : w.ownsRow B e s v n xs) (hB : B' ≤ B) : w.ownsRow B' e s v n xs := ⟨h.1, h.2.imp id fun ⟨g, cap, cur, a, b, c⟩ => ⟨g, cap, cur, a, Nat.le_trans hB b, c⟩⟩
theorem own_drew {B n : Nat} {v : Value} {xs : List Value} {w : World} (h : w.ownsRow B 2 1 v n xs) (X : Obj) : (w.alloc X).ownsRow B 2 1 v n xs := h.alloc X
theorem bq_alloc {q W : World} (h : Below q.heap.size q W) (X : Obj) : Below q.heap.size q (W.alloc X) := h.alloc h.size X
theorem bq_drew {q W : World} (h : Below q.heap.size q W) : Below q.heap.size q W.drew := h.drew

set_option maxHeartbeats 6400000 in
theorem l19Search_any (a : Option Addr) (n cap : Nat) (L : List O9) (au : Option Addr) (cu : Nat) (av : Option Addr) (cv : Nat) {lo hi bu bv lo0 hi0 : Nat} (hn : n ≤ 12) (hats : ∀ i, i < n → 0 ≤ (o9At L i).a ∧ (o9At L i).a ≤ 2) (hbu : lo ≤ bu ∧ bu < hi) (hbv : lo ≤ bv ∧ bv < hi) (hne : bu ≠ bv) (h00 : hi0 ≤ lo) :
    ∀ (f : Nat) (us : List Bool) (vs : List ByteArray) (ao : Option Addr) (m co : Nat) (ps : List Int) (w : World) {lo4 hi4 : Nat}, Ops9 lo0 hi0 w a n L → OwnBools bu (bu + 1) w au n us → OwnTexts bv (bv + 1) w av 3 vs → hi ≤ w.heap.size → Ints lo4 hi4 w ao m ps → (hi4 ≤ lo ∨ hi ≤ lo4) → hi4 ≤ w.heap.size → m + unstood us ≤ 100 → unstood us < f →
      Calls Try.prog 41 #[.slice a n cap, .slice au n cu, .slice av 3 cv, .slice ao m co] w (SrchTo (srch L f us vs ps) lo hi bu bv au n us av vs w) := by
  intro f
  induction f with
  | zero => intro us vs ao m co ps w lo4 hi4 _ _ _ _ _ _ _ _ h; exact absurd h (Nat.not_lt_zero _)
  | succ f ih =>
    intro us vs ao m co ps w lo4 hi4 hL hU hV hhi hP hap hh4 hmu hf
    have HIH := hide ih
    clear ih
    have HL := hide hL
    have HP := hide hP
    have HS : Hid (SrIn lo hi bu bv au n us av vs w w) := ⟨hU, hV, Aside.refl _ _ _⟩
    have HLL := hide hL.1
    have HUL := hide hU.1
    have HVL := hide hV.1
    have HATS := hide hats
    have hBL : Hid (∀ W, Below w.heap.size w W → SrIn lo hi bu bv au n us av vs w W) := fun W b => HS.out.after hbu.2 hbv.2 hhi b
    have HDO : Hid (lo ≤ bu ∧ bu < hi ∧ lo ≤ bv ∧ bv < hi ∧ bu ≠ bv ∧ hi0 ≤ lo ∧ hi ≤ w.heap.size ∧ hi4 ≤ w.heap.size ∧ m + unstood us ≤ 100 ∧ unstood us < f + 1 ∧ (hi4 ≤ lo ∨ hi ≤ lo4)) := ⟨hbu.1, hbu.2, hbv.1, hbv.2, hne, h00, hhi, hh4, hmu, hf, hap⟩
    clear hL hU hV hP hhi hap hh4 hmu hf hbu hbv hne h00 hats
    go_enter Try.func41, Try.ntmps41
    go_wp2_with fail
    go_loopw [10, 11] (fun v i wr => ∃ k : Nat, k ≤ n ∧ v = .bool (stoodK L us k) ∧ i = .int .i64 (k : Int) ∧ Below w.heap.size w wr) (fun _ i _ => n - (intOf i).toNat)
    case atStart => exact ⟨0, Nat.zero_le _, rfl, rfl, Below.refl _ _⟩
    case round =>
      obtain ⟨k, hk, rfl, rfl, hbel⟩ := hrel
      obtain ⟨w1, hw1⟩ : ∃ w1, w1 = wr := ⟨_, rfl⟩
      subst hw1
      have HB := hide hbel
      clear hbel
      by_cases hlt : k < n
      · have hkn : (k : Int) < (n : Int) := by omega
        obtain ⟨b, off, rfl, _, hb, hc⟩ := HL.out.2.2 (by omega)
        obtain ⟨e0, e1, e2, e3, e4⟩ := op9_row hc HB.out (show b < w.heap.size by have := HL.out.2.1; omega) hlt
        obtain ⟨ou, rfl, hm⟩ := own_mark (hBL.out _ HB.out).u (by omega)
        have huk := (hm k hlt).1
        obtain ⟨uk, huk2⟩ : ∃ q, us.getD k false = q := ⟨_, rfl⟩
        have HUK := hide huk2
        rw [huk2] at huk
        obtain ⟨E, hE⟩ : ∃ E, E = (o9At L k).e := ⟨_, rfl⟩
        have HEE := hide hE
        rw [← hE] at e4
        have HST : Hid (stoodK L us (k + 1) = (stoodK L us k && (uk || decide (E < 0)))) := by show (stoodK L us k && (us.getD k false || decide ((o9At L k).e < 0))) = _; rw [HUK.out, ← HEE.out]
        clear e0 e1 e2 e3 hm hc hb huk2 hE
        obtain ⟨st, hst⟩ : ∃ st, stoodK L us k = st := ⟨_, rfl⟩
        rw [hst] at HST
        rw [hst]
        clear hst
        cases st with
        | false =>
          go_wp2_with fail
          exact ⟨⟨k + 1, by omega, by rw [HST.out]; rfl, by simp, HB.out⟩, by simp only [intOf]; omega⟩
        | true =>
          cases uk with
          | true =>
            go_wp2_with fail
            exact ⟨⟨k + 1, by omega, by rw [HST.out]; rfl, by simp, HB.out⟩, by simp only [intOf]; omega⟩
          | false =>
            go_wp2_with fail
            exact ⟨⟨k + 1, by omega, by rw [HST.out]; rfl, by simp, HB.out⟩, by simp only [intOf]; omega⟩
      · obtain rfl : k = n := by omega
        obtain ⟨st, hst⟩ : ∃ st, stoodK L us k = st := ⟨_, rfl⟩
        have HST : Hid (stoodK L us L.length = st) := by show _ = _; rw [HLL.out]; exact hst
        rw [hst]
        clear hst hlt
        have HS1 := hide (hBL.out _ HB.out)
        cases st with
        | true =>
          have HE : Hid (srch L (f + 1) us vs ps = some ps) := srch_stood HST.out
          obtain ⟨v5, w5, hap, hCT⟩ := copy_first (c := co) HP.out HDO.out.2.2.2.2.2.2.2.1 (by have := HDO.out; omega) (w1.alloc (.cells #[] 2)) w1.heap.size (HB.out.alloc HB.out.size _) HB.out.size (heap_new _ _)
          obtain ⟨a5, c5, rfl, ho5, hb5, _⟩ := hCT
          have HO5 := hide ho5
          have HB5 := hide hb5
          clear ho5 hb5
          have HAP := hide hap
          clear hap
          go_wp2_with (at_builtin; refine Lib.wpList_append_run _ rfl _ _ _ _ rfl _ _ rfl rfl _ _ HAP.out ?_)
          go_ret2
          have hpl := HP.out.1
          rw [HE.out]
          refine ⟨.slice a5 m c5, rfl, ?_, (hBL.out _ HB5.out).u, (hBL.out _ HB5.out).v, (hBL.out _ HB5.out).a⟩
          rw [show (some ps).getD [] = ps from rfl, hpl]
          exact HO5.out
        | false =>
          have HE : Hid (srch L (f + 1) us vs ps = firstS (askS L f us vs ps) L.length 0) := srch_ask HST.out
          have HLL2 : Hid (L.length = k) := HLL.out
          have HFA : ∀ d, Hid (firstS (askS L f us vs ps) 0 d = none) := fun _ => rfl
          clear HST
          go_wp2_with fail
          go_loopw [12] (fun i wr => ∃ j : Nat, j ≤ k ∧ i = .int .i64 (j : Int) ∧ firstS (askS L f us vs ps) L.length 0 = firstS (askS L f us vs ps) (k - j) j ∧ SrIn lo hi bu bv au k us av vs w wr) (fun i _ => k - (intOf i).toNat)
          case atStart => exact ⟨0, Nat.zero_le _, rfl, by rw [HLL2.out, Nat.sub_zero], HS1.out⟩
          case round =>
            clear HB HS1
            obtain ⟨j, hj, rfl, hfs, hsr⟩ := hrel
            obtain ⟨w2, hw2⟩ : ∃ w2, w2 = wr := ⟨_, rfl⟩
            subst hw2
            have HFS := hide hfs
            have HS2 := hide hsr
            clear hfs hsr
            by_cases hlt : j < k
            · have hjk : (j : Int) < (k : Int) := by omega
              have HJ : Hid (j < k) := hlt
              have HLB : Hid (Below lo w w2) := HS2.out.a.below (Nat.le_refl _) (by have := HDO.out; omega)
              have HL2 : Hid (Ops9 lo0 hi0 w2 a k L) := HL.out.later HLB.out HDO.out.2.2.2.2.2.1
              have HSZ : Hid (w.heap.size ≤ w2.heap.size) := HS2.out.a.size
              have hhi2 : hi ≤ w2.heap.size := by have := HDO.out; have := HSZ.out; omega
              have HNX := hide (l19Next_any a k cap L au cu us j av cv vs w2 HL2.out (by omega) HS2.out.u.bools (by have := HDO.out; omega) hlt HS2.out.v.texts (HATS.out j hlt).1 (HATS.out j hlt).2)
              clear hhi2
              go_upto_region 11 with fail
              go_wp2_with fail
              refine HNX.out.mono ?_
              rintro e w3 ⟨rfl, b3⟩
              have HS3 := hide (HS2.out.after HDO.out.2.1 HDO.out.2.2.2.1 HDO.out.2.2.2.2.2.2.1 b3)
              have HL3 := hide (HL2.out.later b3 (by have := HDO.out; have := HSZ.out; omega))
              have HSZ3 : Hid (w.heap.size ≤ w3.heap.size) := HS3.out.a.size
              clear b3 HNX HL2 HS2 HLB HSZ
              obtain ⟨x, hx⟩ : ∃ x, nx L us j vs = x := ⟨_, rfl⟩
              have HX := hide hx
              rw [hx]
              clear hx
              cases x with
              | false =>
                have HN : Hid (firstS (askS L f us vs ps) (k - j) j = firstS (askS L f us vs ps) (k - (j + 1)) (j + 1)) := by
                  show _ = _
                  rw [show k - j = (k - (j + 1)) + 1 by omega]
                  exact firstS_skip (by unfold askS; rw [HX.out]; rfl)
                go_wp2_with fail
                go_roundw
                case rel => exact ⟨j + 1, by omega, by go_num, HFS.out.trans HN.out, HS3.out⟩
                case measure => simp [intOf]; omega
              | true =>
                obtain ⟨b, off, rfl, _, hb, hc⟩ := HL3.out.2.2 (by omega)
                obtain ⟨e0, e1, e2, e3, e4⟩ := op9_row hc (Below.refl w3.heap.size w3) (show b < w3.heap.size by have := HDO.out; have := HSZ3.out; omega) hlt
                obtain ⟨ou, rfl, hm⟩ := own_mark HS3.out.u (by omega)
                obtain ⟨ov, rfl, hv⟩ := own_text HS3.out.v
                have HM := hide hm
                have HVV := hide hv
                have hu0 : us.getD j false = false := nx_un HX.out
                have HU0 := hide hu0
                have hat := HATS.out j hlt
                obtain ⟨oa, how⟩ : ∃ o, o = o9At L j := ⟨_, rfl⟩
                have HOW := hide how
                rw [← how] at e0 e1 e2 e3 e4 hat
                obtain ⟨xa, xw, xt, xb, xe⟩ := oa
                dsimp only at e0 e1 e2 e3 e4 hat
                obtain ⟨A, hA⟩ : ∃ A : Nat, xa = (A : Int) := ⟨xa.toNat, by omega⟩
                subst hA
                have hA3 : A < 3 := by omega
                have hA3' : (A : Int) < 3 := by omega
                have HA3 := hide hA3
                obtain ⟨T, hT⟩ : ∃ T, T = vs.getD A ByteArray.empty := ⟨_, rfl⟩
                have HT := hide hT
                obtain ⟨hvA, hvF⟩ := hv A hA3
                rw [← hT] at hvA
                have HWR : Hid (wrote L j vs = if xw then vs.set A xt else vs) := by show _ = _; unfold wrote; rw [← HOW.out]; rfl
                have HBV : Hid (bv < w3.heap.size ∧ bu < w3.heap.size ∧ b < w3.heap.size) := by have := HDO.out; have := HSZ3.out; exact ⟨by omega, by omega, by omega⟩
                clear hm hv hu0 how hat hT e3 e4 hc
                go_upto_if 65 with fail
                go_cut [65] from 41 to 106 (fun _ wx => SrIn lo hi bu bv (some ⟨bu, ou, none⟩) k us (some ⟨bv, ov, none⟩) (wrote L j vs) w wx)
                case first =>
                  cases xw with
                  | false =>
                    go_wp2_with fail
                    go_meet
                    rw [HWR.out]
                    exact HS3.out
                  | true =>
                    go_wp2_with fail
                    go_region
                    all_goals
                      go_wp2_with fail
                      go_meet
                      rw [HWR.out, if_pos trivial]
                      exact SrIn.drew1 (HS3.out.write ⟨HDO.out.2.2.1, HDO.out.2.2.2.1⟩ HDO.out.2.2.2.2.1 HA3.out xt)
                case rest =>
                  clear HM HVV e0 e1 e2 hvA hvF HS3
                  have HS4 := hide hcut
                  have HS5 := hide (hcut.mark (q := true) ⟨HDO.out.1, HDO.out.2.1⟩ HDO.out.2.2.2.2.1 HJ.out)
                  obtain ⟨ou2, hou, hm⟩ := own_mark hcut.u (by omega)
                  simp only [Option.some.injEq, Addr.mk.injEq, and_true, true_and] at hou
                  subst hou
                  obtain ⟨g0, g1⟩ := hm j HJ.out
                  have HSZ4 : Hid (w.heap.size ≤ wc.heap.size) := hcut.a.size
                  clear hcut hm
                  obtain ⟨w5, hw5⟩ : ∃ w5, w5 = wc.setCell ⟨bu, ou + j, none⟩ (.bool true) := ⟨_, rfl⟩
                  rw [← hw5] at HS5
                  have HW5 := hide hw5
                  go_upto_region 16 with fail
                  rw [← hw5]
                  clear hw5 g0 g1
                  have HSZ5 : Hid (w.heap.size ≤ w5.heap.size) := HS5.out.a.size
                  have HB55 : Hid (Below w5.heap.size w5 w5) := Below.refl _ _
                  have HP5 : Hid (Ints lo4 hi4 w5 ao m ps) := by
                    refine HP.out.aside HS5.out.a ?_
                    have := HDO.out
                    omega
                  have HL5 : Hid (Ops9 lo0 hi0 w5 (some ⟨b, off, none⟩) k L) := HL.out.later (HS5.out.a.below (Nat.le_refl _) (by have := HDO.out; omega)) HDO.out.2.2.2.2.2.1
                  have HA1 := hide (copy_first (c := co) HP5.out (by have := HDO.out; have := HSZ5.out; omega) (by have := HDO.out; omega))
                  have HA2 := hide (copy_next (q := w5) HP.out.1 (j : Int) (by have := HDO.out; omega))
                  have HCA : ∀ (W : World) (a7 : Option Addr) (c7 : Nat), Hid (Below w5.heap.size w5 W → Ints w5.heap.size W.heap.size W a7 (m + 1) (ps ++ [(j : Int)]) → Calls Try.prog 41 #[.slice (some ⟨b, off, none⟩) k cap, .slice (some ⟨bu, ou, none⟩) k cu, .slice (some ⟨bv, ov, none⟩) 3 cv, .slice a7 (m + 1) c7] W (SrchTo (srch L f (us.set j true) (wrote L j vs) (ps ++ [(j : Int)])) lo hi bu bv (some ⟨bu, ou, none⟩) k (us.set j true) (some ⟨bv, ov, none⟩) (wrote L j vs) W)) := fun W a7 c7 hb hi7 => by
                    have hD := HDO.out
                    have h5 := HSZ5.out
                    have h6 := hb.size
                    have hst := unstood_set (us := us) (i := j) (by rw [HUL.out]; exact HJ.out) HU0.out
                    exact HIH.out (us.set j true) (wrote L j vs) a7 (m + 1) c7 (ps ++ [(j : Int)]) W (HL5.out.later hb (by omega)) (HS5.out.u.later hb (by omega)) (HS5.out.v.later hb (by omega)) (by omega) hi7 (.inr (by omega)) (Nat.le_refl _) (by omega) (by omega)
                  go_cut [14, 15] from 41 to 106 (fun v q wx => ∃ r, srch L f (us.set j true) (wrote L j vs) (ps ++ [(j : Int)]) = r ∧ q = .bool r.isSome ∧ wx.ownsRow w.heap.size 2 1 v (r.getD []).length ((r.getD []).map (Value.int .i64)) ∧ SrIn lo hi bu bv (some ⟨bu, ou, none⟩) k (us.set j true) (some ⟨bv, ov, none⟩) (wrote L j vs) w wx)
                  case first =>
                    obtain ⟨v6, w6, hap6, a6, c6, rfl, ho6, hb6, hk6⟩ := HA1.out (w5.alloc (.cells #[] 2)) w5.heap.size (bq_alloc HB55.out _) (Nat.le_refl _) (heap_new _ _)
                    obtain ⟨v7, w7, hap7, a7, c7, rfl, hi7, hb7⟩ := HA2.out (w6.alloc (.cells #[.int .i64 (j : Int)] 2)) a6 c6 w6.heap.size (bq_alloc hb6 _) (own_drew ho6 _) (heap_new _ _)
                    have HAP6 := hide hap6
                    have HAP7 := hide hap7
                    have HI7 := hide hi7
                    have HB7 := hide hb7
                    clear hap6 hap7 ho6 hb6 hk6 hi7 hb7
                    go_wp2_with (at_builtin; (first | (refine Lib.wpList_append_run _ rfl (.tmp 85) (.tmp 86) _ _ rfl _ _ rfl rfl _ _ HAP6.out ?_) | (refine Lib.wpList_append_run _ rfl (.tmp 87) (.tmp 89) _ _ rfl _ _ rfl rfl _ _ HAP7.out ?_)))
                    refine ((HCA w7 a7 c7).out HB7.out HI7.out).mono ?_
                    rintro e w8 ⟨v8, rfl, ho8, hu8, hv8, ha8⟩
                    have HO8 := hide ho8
                    have HS8 : Hid (SrIn lo hi bu bv (some ⟨bu, ou, none⟩) k (us.set j true) (some ⟨bv, ov, none⟩) (wrote L j vs) w w8) := ⟨hu8, hv8, (HS5.out.after HDO.out.2.1 HDO.out.2.2.2.1 HDO.out.2.2.2.2.2.2.1 HB7.out).a.trans ha8⟩
                    have HZ8 : Hid (w.heap.size ≤ w7.heap.size) := Nat.le_trans HSZ5.out HB7.out.size
                    clear ho8 hu8 hv8 ha8
                    go_wp2_with fail
                    go_meet
                    exact ⟨_, rfl, rfl, own_monoH HO8.out HZ8.out, HS8.out⟩
                  case rest =>
                    obtain ⟨r, hr, rfl, hown, hs⟩ := hcut
                    have HR := hide hr
                    have HO8 := hide hown
                    have HS8 := hide hs
                    clear hr hown hs HA1 HA2 HCA HP5 HL5 HB55 HSZ5 HS5 HW5
                    obtain ⟨ou2, hou, hm⟩ := own_mark HS8.out.u (by omega)
                    simp only [Option.some.injEq, Addr.mk.injEq, and_true, true_and] at hou
                    subst hou
                    obtain ⟨g0, g1⟩ := hm j HJ.out
                    clear hm
                    have HS9 : Hid (SrIn lo hi bu bv (some ⟨bu, ou, none⟩) k us (some ⟨bv, ov, none⟩) (wrote L j vs) w (wc.setCell ⟨bu, ou + j, none⟩ (.bool false))) := by
                      have h := HS8.out.mark (q := false) ⟨HDO.out.1, HDO.out.2.1⟩ HDO.out.2.2.2.2.1 HJ.out
                      rw [used_back (by rw [HUL.out]; exact HJ.out) HU0.out] at h
                      exact h
                    obtain ⟨w9, hw9⟩ : ∃ w9, w9 = wc.setCell ⟨bu, ou + j, none⟩ (.bool false) := ⟨_, rfl⟩
                    rw [← hw9] at HS9
                    have HO9 : Hid (w9.ownsRow w.heap.size 2 1 u14 (r.getD []).length ((r.getD []).map (Value.int .i64))) := by
                      rw [hw9]
                      exact own_asideH HO8.out ((Aside.refl bu (bu + 1) wc).setCell (p := ⟨bu, ou + j, none⟩) (Nat.le_refl _) (Nat.lt_succ_self _) _) (by have := HDO.out; omega)
                    go_upto_region 18 with fail
                    rw [← hw9]
                    clear hw9 g0 g1
                    obtain ⟨ov2, hov, hv⟩ := own_text HS9.out.v
                    simp only [Option.some.injEq, Addr.mk.injEq, and_true, true_and] at hov
                    subst hov
                    obtain ⟨g0, g1⟩ := hv A hA3
                    clear hv
                    have HL9 : Hid (Ops9 lo0 hi0 w9 (some ⟨b, off, none⟩) k L) := HL.out.later (HS9.out.a.below (Nat.le_refl _) (by have := HDO.out; omega)) HDO.out.2.2.2.2.2.1
                    have HS10 : Hid (SrIn lo hi bu bv (some ⟨bu, ou, none⟩) k us (some ⟨bv, ov, none⟩) vs w (w9.setCell ⟨bv, ov + A, none⟩ (.string T))) := by
                      have h := HS9.out.write ⟨HDO.out.2.2.1, HDO.out.2.2.2.1⟩ HDO.out.2.2.2.2.1 HA3.out T
                      have hb9 := wrote_back (L := L) (i := j) (vs := vs) (by rw [← HOW.out, HVL.out]; exact HA3.out)
                      rw [← HOW.out] at hb9
                      rw [show (wrote L j vs).set A T = vs by rw [HT.out]; exact hb9] at h
                      exact h
                    have HO10 : Hid ((w9.setCell ⟨bv, ov + A, none⟩ (.string T)).ownsRow w.heap.size 2 1 u14 (r.getD []).length ((r.getD []).map (Value.int .i64))) := own_asideH HO9.out ((Aside.refl bv (bv + 1) w9).setCell (p := ⟨bv, ov + A, none⟩) (Nat.le_refl _) (Nat.lt_succ_self _) _) (by have := HDO.out; omega)
                    have HASK : Hid (askS L f us vs ps j = r) := by
                      show _ = _
                      unfold askS
                      rw [HX.out]
                      exact HR.out
                    obtain ⟨b9, o9, e9, _, hb9, hc9⟩ := HL9.out.2.2 (by omega)
                    simp only [Option.some.injEq, Addr.mk.injEq, and_true] at e9
                    obtain ⟨rfl, rfl⟩ := e9
                    obtain ⟨e0, _, _, _, _⟩ := op9_row hc9 (Below.refl w9.heap.size w9) (show b < w9.heap.size by have := HL9.out.2.1; omega) HJ.out
                    rw [← HOW.out] at e0
                    dsimp only at e0
                    clear hc9
                    cases r with
                    | none =>
                      have HN : Hid (firstS (askS L f us vs ps) (k - j) j = firstS (askS L f us vs ps) (k - (j + 1)) (j + 1)) := by
                        show _ = _
                        rw [show k - j = (k - (j + 1)) + 1 by have := HJ.out; omega]
                        exact firstS_skip HASK.out
                      have HLT : Hid (j + 1 ≤ k) := HJ.out
                      go_wp2_with fail
                      go_roundw
                      case rel => exact ⟨j + 1, HLT.out, by go_num, HFS.out.trans HN.out, HS10.out⟩
                      case measure => have := HLT.out; simp [intOf]; omega
                    | some o =>
                      have HF : Hid (srch L (f + 1) us vs ps = some o) := by
                        show _ = _
                        rw [HE.out, HFS.out, show k - j = (k - (j + 1)) + 1 by have := HJ.out; omega]
                        exact firstS_hit HASK.out
                      go_wp2_with fail
                      go_ret2
                      rw [HF.out]
                      exact ⟨u14, rfl, HO10.out, HS10.out.u, HS10.out.v, HS10.out.a⟩
            · have HN : Hid (srch L (f + 1) us vs ps = none) := by
                show _ = _
                rw [HE.out, HFS.out, show k - j = 0 by omega]
                rfl
              go_wp2_with fail
              go_ret2
              rw [HN.out]
              have hS9 := HS2.out.after HDO.out.2.1 HDO.out.2.2.2.1 HDO.out.2.2.2.2.2.2.1 ((Below.refl w2.heap.size w2).alloc (Nat.le_refl _) (.cells #[] 2))
              exact ⟨.slice (some ⟨w2.heap.size, 0, none⟩) 0 0, rfl, own_monoH (own_made0 w2 2) HS2.out.a.size, hS9.u, hS9.v, hS9.a⟩
end Go.Proofs.Ytnemncmaaejajaa
