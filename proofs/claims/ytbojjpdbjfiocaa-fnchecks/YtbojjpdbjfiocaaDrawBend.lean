/- The walk that bends a text: what comes out is some text, at most two signs longer. -/
import Derived.Test.YtbojjpdbjfiocaaDrawText
import Derived.Deep.RegionHeld3
import Derived.Deep.AppendLies
namespace Go.Proofs.Ytbojjpdbjfiocaa
open Go.RowKit
set_option linter.unusedVariables false
set_option maxRecDepth 20000

/-- 'append' at a step of a region that draws its order, onto a slice of one's own; nothing may be appended, too. -/
theorem step_append_own {P : Program} (w : World) {ops : Array Oper} {o : Oper} {a : Act} {K : Act → World → Prop} {Q : Exit → Act → World → Prop} {E : Prop} (hgd : o.guard = none) (s x : Operand) (t : TypeId)
    (ho : o.op = .call { callee := .builtin .append, args := #[s, x], argTypes := #[t, t] })
    (base : Nat) (e : TypeId) (i : TypeInfo) (z : Value) (size bytes : Nat) (ht : P.underlying t = some (.slice e)) (hi : P.info? e = some i) (hz : i.zero = some z)
    (hsize : i.size = size) (hby : i.bytes = bytes) (hzs : z.cells.size = size) (hsz : 0 < size)
    (v : Value) (n : Nat) (xs : List Value) (hs : a.eval s = v) (hown : w.ownsRow base e size v n xs)
    (ad : Addr) (m c : Nat) (news : List Value) (hx : a.eval x = .slice (some ad) m c) (hl : news.length = m * size) (hnews : ∀ j u, news[j]? = some u → w.cell? (ad.add j) = some u) (h1 : ∀ u ∈ news, u.oneCell' = true)
    (h63 : n + m ≤ maxLen) (hbytes : (n + m) * bytes ≤ 140737488355328) (hbase : base ≤ w.heap.size)
    (h : ∀ v' w', w'.ownsRow base e size v' (n + m) (xs ++ news) → w.grownBy w' v.ownBlock → K (a.put o.dst v') w') :
    if Region.wanted o (yielded ops a.tmps) = true then Oper.wp P o a w K Q else E := by
  have hw : Region.wanted o (yielded ops a.tmps) = true := by simp [Region.wanted, hgd]
  rw [if_pos hw]
  obtain ⟨v', w', hr, h2, h3, _, h5⟩ := run_append_own_at (P := P) w base t o.type e i z size bytes ht hi hz hsize hby hzs hsz v n xs hown ad m c news hl hnews h1 h63 hbytes hbase
  unfold Oper.wp execOp
  simp only [ho, resolve, invoke, builtin, Sem.run_bind, Sem.run_pure, Result.andThen_ok, List.map_toArray, List.map_cons, List.map_nil, hs, hx, hr]
  exact h v' w' h2 h3

theorem Owned.news {lo hi : Nat} {w : World} {b off n : Nat} {l : List UInt8} (h : Owned lo hi w (some ⟨b, off, none⟩) n (cellB l)) (hl : l.length = n) (k m : Nat) (hm : k + m ≤ n) :
    ∀ j u, (((l.drop k).take m).map byteV)[j]? = some u → w.cell? ((⟨b, off + k, none⟩ : Addr).add j) = some u := by
  intro j u hu
  rw [List.getElem?_map, List.getElem?_take] at hu
  by_cases hj : j < m
  · rw [if_pos hj, List.getElem?_drop] at hu
    obtain ⟨b', off', e, _, _, hc⟩ := h.2 (by omega)
    simp only [Option.some.injEq, Addr.mk.injEq, and_true] at e
    obtain ⟨rfl, rfl⟩ := e
    have hcell := (hc (k + j) (by omega)).1
    have hadd : (⟨b, off + k, none⟩ : Addr).add j = ⟨b, off + (k + j), none⟩ := by unfold Addr.add; simp [Nat.add_assoc]
    rw [hadd, hcell]
    rw [List.getElem?_eq_getElem (by omega)] at hu
    simp only [Option.map_some, Option.some.injEq] at hu
    rw [← hu, cellB, List.getD_eq_getElem?_getD, List.getElem?_eq_getElem (by omega)]
    rfl
  · rw [if_neg hj] at hu; simp at hu
/-- The rest of a row from place k on: its address as a letter. -/
theorem slice_rest {P : Program} (t e : TypeId) (ht : P.underlying t = some (.slice e)) (hs : ∀ w, (sizeOf e).run P w = .ok 1 w) (b off n cap k : Nat) (hk : k ≤ n) (hn : n ≤ cap) :
    ∃ ad : Addr, (ad = ⟨b, off + k, none⟩ ∨ n - k = 0) ∧ ∀ w, (Instr.sliceAt t (.slice (some ⟨b, off, none⟩) n cap) (some (.int .i64 (k : Int))) none none).run P w = .ok (.slice (some ad) (n - k) (cap - k)) w := by
  have he : P.elem t = e := by simp [Program.elem, ht]
  have ht' : P.underlying t = some (.slice (P.elem t)) := by rw [he]; exact ht
  by_cases h : cap = k
  · refine ⟨⟨b, off, none⟩, .inr (by omega), fun w => ?_⟩
    rw [run_sliceAt_slice w t _ _ _ _ ht', run_slice_l (P := P) w t _ n cap ht' .i64 (k : Int) (by omega) (by omega), he, hs]
    simp [sliced, h, Result.andThen]
  · refine ⟨⟨b, off + k, none⟩, .inl rfl, fun w => ?_⟩
    rw [run_sliceAt_slice w t _ _ _ _ ht', run_slice_l (P := P) w t _ n cap ht' .i64 (k : Int) (by omega) (by omega), he, hs]
    simp [sliced, h, Result.andThen, Addr.add]
theorem slice_first {P : Program} (t e : TypeId) (ht : P.underlying t = some (.slice e)) (hs : ∀ w, (sizeOf e).run P w = .ok 1 w) (b off n cap k : Nat) (hk : k ≤ n) (hn : n ≤ cap) :
    ∀ w, (Instr.sliceAt t (.slice (some ⟨b, off, none⟩) n cap) none (some (.int .i64 (k : Int))) none).run P w = .ok (.slice (some ⟨b, off, none⟩) k cap) w := by
  intro w
  have he : P.elem t = e := by simp [Program.elem, ht]
  have ht' : P.underlying t = some (.slice (P.elem t)) := by rw [he]; exact ht
  rw [run_sliceAt_slice w t _ _ _ _ ht', run_slice_h (P := P) w t _ n cap ht' .i64 (k : Int) (by omega) (by omega), he, hs]
  simp [sliced, Result.andThen, Addr.add]
theorem Owned.newsAt {lo hi : Nat} {w : World} {b off n : Nat} {l : List UInt8} (h : Owned lo hi w (some ⟨b, off, none⟩) n (cellB l)) (hl : l.length = n) (k : Nat) (hk : k ≤ n) {ad : Addr} (had : ad = ⟨b, off + k, none⟩ ∨ n - k = 0) :
    ∀ j u, (((l.drop k).take (n - k)).map byteV)[j]? = some u → w.cell? (ad.add j) = some u := by
  rcases had with rfl | h0
  · exact h.news hl k (n - k) (by omega)
  · intro j u hu
    rw [h0] at hu
    simp at hu
theorem news_length (l : List UInt8) (k m n : Nat) (hl : l.length = n) (hm : k + m ≤ n) : (((l.drop k).take m).map byteV).length = m * 1 := by simp; omega
theorem news_one (l : List UInt8) : ∀ u ∈ l.map byteV, u.oneCell' = true := by
  intro u hu
  obtain ⟨c, _, rfl⟩ := List.mem_map.1 hu
  rfl

theorem ownBytes_of {w : World} {base e n : Nat} {v : Value} {l : List UInt8} (h : w.ownsRow base e 1 v n (l.map byteV)) {lo : Nat} (hlo : lo ≤ base) :
    ∃ a cap, v = .slice a n cap ∧ n ≤ cap ∧ OwnBytes lo w.heap.size w a n l := by
  obtain ⟨a, cap, rfl, hcap, hlen, _, how⟩ := owned_of_own h
  rw [List.length_map] at hlen
  refine ⟨a, cap, rfl, hcap, hlen, how.1, fun hn => ?_⟩
  obtain ⟨b, off, e, h1, h2, h3⟩ := how.2 hn
  refine ⟨b, off, e, Nat.le_trans hlo h1, h2, fun i hi => ?_⟩
  obtain ⟨h4, h5⟩ := h3 i hi
  refine ⟨h4.trans ?_, h5⟩
  show some ((l.map byteV).getD i (.int .i64 0)) = some (cellB l i)
  rw [List.getD_eq_getElem?_getD]
  simp [show i < l.length by omega, byteV, cellB, List.getD_eq_getElem?_getD]
theorem Owned.wide {lo hi : Nat} {w : World} {a : Option Addr} {n : Nat} {f : Nat → Value} (h : Owned lo hi w a n f) {hi' : Nat} (h1 : hi ≤ hi') (h2 : hi' ≤ w.heap.size) : Owned lo hi' w a n f :=
  ⟨h2, fun hn => by
    obtain ⟨b, off, e, q1, q2, q3⟩ := h.2 hn
    exact ⟨b, off, e, q1, Nat.lt_of_lt_of_le q2 h1, q3⟩⟩
theorem Owned.first {lo hi : Nat} {w : World} {a : Option Addr} {n : Nat} {f : Nat → Value} (h : Owned lo hi w a n f) {m : Nat} (hm : m ≤ n) : Owned lo hi w a m f :=
  ⟨h.1, fun hn => by
    obtain ⟨b, off, e, q1, q2, q3⟩ := h.2 (by omega)
    exact ⟨b, off, e, q1, q2, fun i hi => q3 i (by omega)⟩⟩
theorem cellB_take (l : List UInt8) (q i : Nat) (h : i < q) : cellB l i = cellB (l.take q) i := by
  unfold cellB
  rw [List.getD_eq_getElem?_getD, List.getD_eq_getElem?_getD, List.getElem?_take, if_pos h]
theorem cellB_set (l : List UInt8) (q i : Nat) (u : UInt8) (h : q < l.length) : (if i = q then Value.int .u8 (u.toNat : Int) else cellB l i) = cellB (l.set q u) i := by
  unfold cellB
  by_cases e : i = q
  · subst e; rw [if_pos rfl]; simp [List.getD_eq_getElem?_getD, h]
  · rw [if_neg e, List.getD_eq_getElem?_getD, List.getD_eq_getElem?_getD, List.getElem?_set_ne (fun h => e h.symm)]
theorem aside_of_below {w w' : World} {lo hi : Nat} (h : Below w.heap.size w w') : Aside lo hi w w' := ⟨h.os, h.tape, h.output, h.size, fun k hk _ => h.block k hk⟩

set_option maxRecDepth 100000 in
set_option maxHeartbeats 3200000 in
theorem bend_any (p : Nat) (s signs : ByteArray) (w : World) (hc : Cur w p) (hs : s.size ≤ 65536) (hg0 : 0 < signs.size) (hg1 : signs.size ≤ 65536) :
    Calls Try.prog 76 #[.pointer (some ⟨p, 0, none⟩), .string s, .string signs] w fun e w' => ∃ t : ByteArray, e = .returned (.string t) ∧ t.size ≤ s.size + 2 ∧ Cur w' p ∧ Aside p (p + 1) w w' := by
  obtain ⟨i0, hi0, hz0, hz1, hz2⟩ := info_parts Try.infoU8d
  have hpl := hc.lt
  have hcv := run_bytes_of_string (P := Try.prog) w 9 22 5 s Try.underlying9 Try.underlying22 Try.underlying5
  obtain ⟨cap, hcap⟩ : ∃ c, c = grownCap w s.size 0 5 := ⟨_, rfl⟩
  have hge : s.size ≤ cap := by rw [hcap]; exact grownCap_ge w s.size 0 5
  rw [← hcap] at hcv
  have HM := bytes_made w s 5 cap ((bytesRow s cap).size + 1)
  obtain ⟨C, hC⟩ : ∃ C, C = Obj.cells (bytesRow s cap) 5 ((bytesRow s cap).size, (bytesRow s cap).size + 1) := ⟨_, rfl⟩
  rw [← hC] at hcv HM
  have HM' : Hid (OwnBytes w.heap.size (w.heap.size + 1) (w.alloc C).drew (some ⟨w.heap.size, 0, none⟩) s.size s.data.toList) := ⟨by simp, HM⟩
  have HA0 : Hid (Aside p (p + 1) w (w.alloc C).drew) := ((Aside.refl p (p + 1) w).alloc C).drewN 1
  have hc0 : Cur (w.alloc C).drew p := (hc.alloc C).drewN 1
  clear HM hC hcap hc
  go_enter Try.func76, Try.ntmps76
  go_wp2_with fail
  refine (l1Below_any p 3 _ hc0 (by omega)).mono ?_
  rintro e w1 ⟨x, rfl, x0, x1, c1, s1⟩
  have HO1 := hide (HM'.out.2.aside s1 (.inr (by omega)))
  have HA1 := hide (HA0.out.trans s1)
  clear HM' HA0 s1 hcv hc0
  go_wp2_with fail
  go_loopw [7, 8] (fun v i wr => ∃ (a : Option Addr) (n cap : Nat) (l : List UInt8) (k : Int), v = .slice a n cap ∧ n ≤ cap ∧ i = .int .i64 k ∧ 0 ≤ k ∧ k + n ≤ s.size + 2 ∧ OwnBytes w.heap.size wr.heap.size wr a n l ∧ Cur wr p ∧ Aside p (p + 1) w wr) (fun _ i _ => (intOf i).toNat)
  case atStart => exact ⟨_, _, _, s.data.toList, x, rfl, hge, rfl, x0, by omega, ⟨by simp, HO1.out.wide HO1.out.1 (Nat.le_refl _)⟩, c1, HA1.out⟩
  case round =>
    obtain ⟨a, n, cp, l, k, rfl, hncap, rfl, k0, k1, hown, hcr, hA⟩ := hrel
    clear HO1 HA1
    have HOWN := hide hown
    have HA := hide hA
    clear hown hA
    by_cases hlt : 0 < k
    · by_cases hn : 0 < n
      · obtain ⟨b, off, rfl, hb1, hb2, _⟩ := HOWN.out.2.2 hn
        have hnz : (0 : Int) < (n : Int) := by omega
        go_wp2_with fail
        refine (l1Below_any p (n : Int) wr hcr (by omega)).mono ?_
        rintro e w2 ⟨y, rfl, y0, y1, c2, s2⟩
        obtain ⟨q, rfl⟩ := Int.eq_ofNat_of_zero_le y0
        have hq : q < n := by omega
        have HS2 := hide s2
        clear s2 y0 y1
        go_wp2_with fail
        refine (l1Below_any p 4 w2 c2 (by omega)).mono ?_
        rintro e w3 ⟨y, rfl, y0, y1, c3, s3⟩
        have HA3 := hide ((HA.out.trans HS2.out).trans s3)
        have HO3 := hide ((HOWN.out.2.aside HS2.out (.inr (by omega))).aside s3 (.inr (by omega)))
        have hl := hide HOWN.out.1
        have hsz3 := Nat.le_trans HS2.out.size s3.size
        clear HOWN HA HS2 s3 c2 hcr
        rcases (show y = 0 ∨ y = 1 ∨ y = 2 ∨ y = 3 by omega) with rfl | rfl | rfl | rfl
        · go_wp2_with fail
          refine (l1Below_any p (signs.size : Int) w3 c3 (by omega)).mono ?_
          rintro e w4 ⟨z, rfl, z0, z1, c4, s4⟩
          obtain ⟨d, rfl⟩ := Int.eq_ofNat_of_zero_le z0
          have hd : d < signs.size := by omega
          have how4 := HO3.out.aside s4 (.inr (by omega))
          obtain ⟨b', off', e, _, _, hcl⟩ := how4.2 hn
          simp only [Option.some.injEq, Addr.mk.injEq, and_true] at e
          obtain ⟨rfl, rfl⟩ := e
          obtain ⟨hco, hfo⟩ := hcl q hq
          have HO4 := hide how4
          have HA4 := hide (HA3.out.trans s4)
          have hsz4 := hide (Nat.le_trans hsz3 s4.size)
          rw [cellB] at hco
          clear how4 s4 HO3 HA3 hcl c3
          go_wp2_with fail
          go_roundw
          case rel =>
            refine ⟨_, n, cp, l.set q signs[d], k - 1, rfl, hncap, by go_num, by omega, by omega, ⟨by rw [List.length_set]; exact hl.out, ?_⟩, c4.set_new (by omega) _, HA4.out.set_new (by omega) _⟩
            have hst := ((HO4.out.set hq (.int .u8 (signs[d].toNat : Int))).congr (fun i _ => cellB_set l q i signs[d] (by rw [hl.out]; exact hq)))
            exact hst.wide (by rw [Go.Deep.nblk_setCell]; exact hsz4.out) (Nat.le_refl _)
          case measure => simp [intOf]; omega
        · go_wp2_with fail
          go_roundw
          case rel => exact ⟨_, q, cp, l.take q, k - 1, rfl, by omega, by go_num, by omega, by omega, ⟨by rw [List.length_take, hl.out]; omega, ((HO3.out.first (by omega)).congr (fun i hi => cellB_take l q i hi)).wide hsz3 (Nat.le_refl _)⟩, c3, HA3.out⟩
          case measure => simp [intOf]; omega
        · have H0 := hide (own_made0 w3 5)
          have HB1 : Hid (Below w3.heap.size w3 (w3.alloc (.cells #[] 5)).drew) := ((Below.refl w3.heap.size w3).alloc (Nat.le_refl _) (.cells #[] 5)).drew
          have HN1 := hide ((HO3.out.later HB1.out (by omega)).news hl.out 0 q (by omega))
          obtain ⟨ad, had, hsl2⟩ := slice_rest (P := Try.prog) 22 5 Try.underlying22 (fun _ => by kernel_rfl) b off n cp (q + 1) (by omega) hncap
          have hsl1 := slice_first (P := Try.prog) 22 5 Try.underlying22 (fun _ => by kernel_rfl) b off n cp q (by omega) hncap
          have HAD := hide had
          have HN2 : ∀ w', Below w3.heap.size w3 w' → Hid (∀ j u, (((l.drop (q + 1)).take (n - (q + 1))).map byteV)[j]? = some u → w'.cell? (ad.add j) = some u) := fun w' hb => (HO3.out.later hb (by omega)).newsAt hl.out (q + 1) (by omega) HAD.out
          have i5 : n ≤ 65538 := by omega
          obtain ⟨r, hr⟩ : ∃ r, r = q + 1 := ⟨_, rfl⟩
          have i6 : IntKind.i64.wrap ((q : Int) + 1) = (r : Int) := by rw [IntKind.wrap_i64]; omega
          have hrn : r ≤ n := by omega
          have HR : Hid (r = q + 1) := hr
          rw [← hr] at hsl2 HAD HN2
          clear had hr
          go_wp2_with fail
          go_region_held3 (fun _ => True) (trivial)
            (first
              | ((refine step_append_own _ (by rfl) _ _ _ (by rfl) w3.heap.size 5 i0 (.int .u8 0) 1 1 Try.underlying22 hi0 hz0 hz1 hz2 rfl (by decide) _ 0 [] (by rfl) H0.out ⟨b, off, none⟩ q cp (((l.drop 0).take q).map byteV) (by rfl) (news_length l 0 q n hl.out (by omega)) HN1.out (news_one _) (by unfold maxLen; omega) (by omega) HB1.out.size ?_; intro v1 w4 hown1 hgrow1))
              | ((refine step_append_own _ (by rfl) _ _ _ (by rfl) w3.heap.size 5 i0 (.int .u8 0) 1 1 Try.underlying22 hi0 hz0 hz1 hz2 rfl (by decide) v1 _ _ (by rfl) hown1 ad (n - r) (cp - r) (((l.drop r).take (n - r)).map byteV) (by rfl) (news_length l r (n - r) n hl.out (by omega)) (HN2 w4 (HB1.out.grown hgrow1 HB1.out.size (fun k hk => (H0.out.lt k hk).1))).out (news_one _) (by unfold maxLen; omega) (by omega) (Nat.le_trans HB1.out.size hgrow1.size) ?_; intro v2 w5 hown2 hgrow2)))
          have hB5 := (HB1.out.grown hgrow1 HB1.out.size (fun k hk => (H0.out.lt k hk).1))
          have hB6 := hide (hB5.grown hgrow2 hB5.size (fun k hk => (hown1.lt k hk).1))
          have hap : [] ++ ((l.drop 0).take q).map byteV ++ ((l.drop r).take (n - r)).map byteV = (((l.drop 0).take q) ++ ((l.drop r).take (n - r))).map byteV := by simp
          rw [hap] at hown2
          obtain ⟨a', cap', rfl, hcap', hown'⟩ := ownBytes_of hown2 (lo := w.heap.size) (by omega)
          have HOWN' := hide hown'
          clear hown2 hown' hown1 hap hB5 hgrow1 hgrow2 HN1 HN2 hsl1 hsl2 H0 HB1
          go_wp2_with fail
          go_roundw
          case rel => exact ⟨a', _, cap', _, k - 1, rfl, hcap', by go_num, by omega, by have := HR.out; omega, HOWN'.out, c3.below hB6.out c3.lt, HA3.out.trans (aside_of_below hB6.out)⟩
          case measure => simp [intOf]; omega
        · have H0 := hide (own_made0 w3 5)
          have HB1 : Hid (Below w3.heap.size w3 (w3.alloc (.cells #[] 5)).drew) := ((Below.refl w3.heap.size w3).alloc (Nat.le_refl _) (.cells #[] 5)).drew
          have HN1 := hide ((HO3.out.later HB1.out (by omega)).news hl.out 0 q (by omega))
          obtain ⟨ad, had, hsl2⟩ := slice_rest (P := Try.prog) 22 5 Try.underlying22 (fun _ => by kernel_rfl) b off n cp q (by omega) hncap
          have hsl1 := slice_first (P := Try.prog) 22 5 Try.underlying22 (fun _ => by kernel_rfl) b off n cp q (by omega) hncap
          have HAD := hide had
          have HN2 : ∀ w', Aside p (p + 1) w3 w' → Hid (∀ j u, (((l.drop q).take (n - q)).map byteV)[j]? = some u → w'.cell? (ad.add j) = some u) := fun w' hb => (HO3.out.aside hb (.inr (by omega))).newsAt hl.out q (by omega) HAD.out
          have i5 : n ≤ 65538 := by omega
          clear had
          go_wp2_with fail
          go_region_held3 (fun w' => Cur w' p) (first | assumption | (exact Cur.alloc (by assumption) _) | (exact Cur.drewN (by assumption) 1) | (exact Cur.drewN (Cur.alloc (by assumption) _) 1) | (exact Cur.grown (by assumption) hgrow3 (fun k hk => by have := (hown2.lt k hk).1; omega)) | (exact Cur.grown (by assumption) hgrow2 (fun k hk => by have := (hown1.lt k hk).1; omega)) | (exact Cur.grown (by assumption) hgrow1 (fun k hk => by have := (H0.out.lt k hk).1; omega)))
            (first
              | ((go_at_call 54; refine (l1Below_any p (signs.size : Int) _ (by assumption) (by omega)).mono ?_; rintro e w5 ⟨z, rfl, z0, z1, c5, s5⟩))
              | ((refine step_append_own _ (by rfl) _ _ _ (by rfl) w3.heap.size 5 i0 (.int .u8 0) 1 1 Try.underlying22 hi0 hz0 hz1 hz2 rfl (by decide) _ 0 [] (by rfl) H0.out ⟨b, off, none⟩ q cp (((l.drop 0).take q).map byteV) (by rfl) (news_length l 0 q n hl.out (by omega)) HN1.out (news_one _) (by unfold maxLen; omega) (by omega) HB1.out.size ?_; intro v1 w4 hown1 hgrow1))
              | ((refine step_append_own _ (by rfl) _ _ _ (by rfl) w3.heap.size 5 i0 (.int .u8 0) 1 1 Try.underlying22 hi0 hz0 hz1 hz2 rfl (by decide) v1 _ _ (by rfl) ((own_aside hown1 s5 (by omega)).alloc _) ⟨w5.heap.size, 0, none⟩ 1 1 [.int .u8 ((signs[z.toNat]'(by omega)).toNat : Int)] (by rfl) rfl (cell_one_new _ _ _) (byteV_one _) (by unfold maxLen; omega) (by omega) (Nat.le_trans HB1.out.size (Nat.le_trans hgrow1.size (Nat.le_trans s5.size (by simp)))) ?_; intro v2 w6 hown2 hgrow2))
              | ((refine step_append_own _ (by rfl) _ _ _ (by rfl) w3.heap.size 5 i0 (.int .u8 0) 1 1 Try.underlying22 hi0 hz0 hz1 hz2 rfl (by decide) v2 _ _ (by rfl) hown2 ad (n - q) (cp - q) (((l.drop q).take (n - q)).map byteV) (by rfl) (news_length l q (n - q) n hl.out (by omega)) (HN2 w6 ((((aside_of_below (HB1.out.grown hgrow1 HB1.out.size (fun k hk => (H0.out.lt k hk).1))).trans s5).alloc _).grown hgrow2 (fun k hk => (hown1.lt k hk).1))).out (news_one _) (by unfold maxLen; omega) (by omega) (Nat.le_trans HB1.out.size (Nat.le_trans hgrow1.size (Nat.le_trans s5.size (Nat.le_trans (by simp) hgrow2.size)))) ?_; intro v3 w7 hown3 hgrow3)))
          have hA6 := (((aside_of_below (lo := p) (hi := p + 1) (HB1.out.grown hgrow1 HB1.out.size (fun k hk => (H0.out.lt k hk).1))).trans s5).alloc _).grown hgrow2 (fun k hk => (hown1.lt k hk).1)
          have hA7 := hide (hA6.grown hgrow3 (fun k hk => (hown2.lt k hk).1))
          have hap : [] ++ ((l.drop 0).take q).map byteV ++ [.int .u8 ((signs[z.toNat]'(by omega)).toNat : Int)] ++ ((l.drop q).take (n - q)).map byteV = (((l.drop 0).take q) ++ [signs[z.toNat]'(by omega)] ++ ((l.drop q).take (n - q))).map byteV := by simp [byteV]
          rw [hap] at hown3
          obtain ⟨a', cap', rfl, hcap', hown'⟩ := ownBytes_of hown3 (lo := w.heap.size) (by omega)
          have HOWN' := hide hown'
          clear hown3 hown2 hown' hown1 hap hA6 hgrow1 hgrow2 hgrow3 HN1 HN2 hsl1 hsl2 H0 HB1 s5
          go_wp2_with fail
          go_roundw
          case rel => exact ⟨a', _, cap', _, k - 1, rfl, hcap', by go_num, by omega, by omega, HOWN'.out, by assumption, HA3.out.trans hA7.out⟩
          case measure => simp [intOf]; omega
      · obtain rfl : n = 0 := by omega
        have hst := string_of (P := Try.prog) (lo := w.heap.size) (hi := wr.heap.size) (w := wr) (a := a) (n := 0) (l := l) ⟨HOWN.out.1, HOWN.out.2.reads⟩ 22 9 5 cp Try.underlying22 Try.underlying5 Try.underlying9
        go_wp2_with fail
        go_ret
        exact ⟨_, rfl, by rw [size_mk, HOWN.out.1]; omega, hcr, HA.out⟩
    · have hst := string_of (P := Try.prog) (lo := w.heap.size) (hi := wr.heap.size) (w := wr) (a := a) (n := n) (l := l) ⟨HOWN.out.1, HOWN.out.2.reads⟩ 22 9 5 cp Try.underlying22 Try.underlying5 Try.underlying9
      go_wp2_with fail
      go_ret
      exact ⟨_, rfl, by rw [size_mk, HOWN.out.1]; omega, hcr, HA.out⟩
end Go.Proofs.Ytbojjpdbjfiocaa
