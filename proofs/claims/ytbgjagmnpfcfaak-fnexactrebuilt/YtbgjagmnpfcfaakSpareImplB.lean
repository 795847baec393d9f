/- The walk of chapter 6's program: Spares. -/
import Derived.Test.YtbgjagmnpfcfaakSpareImplB2
import Derived.Test.YtbgjagmnpfcfaakSpareSpec3
namespace Go.Proofs.Ytbgjagmnpfcfaak
open Go.RowKit
set_option linter.unusedVariables false
set_option linter.unusedSimpArgs false
set_option maxRecDepth 20000

theorem spareT_text {ts : List ByteArray} {j n L : Nat} (hl : ts.length = n) (hL : L = (ts.getD 0 ByteArray.empty).size) : textN L (fun k => spareN ts j n k) = spareT ts j := by
  unfold textN spareT
  rw [hl, hL]
theorem texts_row {lo hi w g n} {ts : List ByteArray} (hl : ts.length = n) (h : World.rowIs w g 9 n (cellT ts)) (h1 : lo ≤ g) (h2 : g < hi) (h3 : hi ≤ w.heap.size) : OwnTexts lo hi w (some ⟨g, 0, none⟩) n ts := ⟨hl, owned_of_row h h1 h2 h3⟩
set_option maxHeartbeats 1600000 in
theorem implSpares_any (a : Option Addr) (n cap : Nat) (ts : List ByteArray) (d : Int) (w : World) {lo hi : Nat} (h : Texts lo hi w a n ts) (hn : n ≤ 1048576) (hts : ∀ s ∈ ts, s.size ≤ 1048576) :
    Calls Try.prog 11 #[.slice a n cap, .int .i64 d] w fun e w' => ∃ a' m c, e = .returned (.slice a' m c) ∧ m ≤ 4 ∧ OwnTexts w.heap.size w'.heap.size w' a' m (sparesT ts d) ∧ Below w.heap.size w w' := by
  have HH := hide h
  have HTS := hide hts
  have hhi := h.2.1
  clear h hts
  have HEM : ∀ w1, Hid (Below w.heap.size w w1 → OwnTexts w.heap.size (w1.alloc (.cells #[] 9)).heap.size (w1.alloc (.cells #[] 9)) (some ⟨w1.heap.size, 0, none⟩) 0 [] ∧ Below w.heap.size w (w1.alloc (.cells #[] 9))) := fun w1 hb => ⟨⟨rfl, Nat.le_refl _, fun h => absurd h (Nat.lt_irrefl _)⟩, hb.alloc hb.size _⟩
  cases hok : columnsOk ts
  · have HE := hide (sparesT_no (d := d) (.inl hok))
    go_enter Try.func11, Try.ntmps11
    go_wp2_with fail
    refine (implColumnsOk_any a n cap ts _ HH.out hn HTS.out).mono ?_
    rw [hok]
    rintro e w1 ⟨rfl, b1⟩
    have HB1 := hide ((HEM w1).out b1)
    clear b1
    go_wp2_with fail
    go_ret
    exact ⟨_, _, _, rfl, by omega, by rw [HE.out]; exact HB1.out.1, HB1.out.2⟩
  · cases hd : inB d 1 4
    · have HE := hide (sparesT_no (ts := ts) (.inr hd))
      have hd2 : d < 1 ∨ (1 ≤ d ∧ 4 < d) := by
        simp [inB] at hd
        omega
      rcases hd2 with hd2 | ⟨hd1, hd2⟩
      · go_enter Try.func11, Try.ntmps11
        go_wp2_with fail
        refine (implColumnsOk_any a n cap ts _ HH.out hn HTS.out).mono ?_
        rw [hok]
        rintro e w1 ⟨rfl, b1⟩
        have HB1 := hide ((HEM w1).out b1)
        clear b1
        go_wp2_with fail
        go_ret
        exact ⟨_, _, _, rfl, by omega, by rw [HE.out]; exact HB1.out.1, HB1.out.2⟩
      · go_enter Try.func11, Try.ntmps11
        go_wp2_with fail
        refine (implColumnsOk_any a n cap ts _ HH.out hn HTS.out).mono ?_
        rw [hok]
        rintro e w1 ⟨rfl, b1⟩
        have HB1 := hide ((HEM w1).out b1)
        clear b1
        go_wp2_with fail
        go_ret
        exact ⟨_, _, _, rfl, by omega, by rw [HE.out]; exact HB1.out.1, HB1.out.2⟩
    · obtain ⟨D, rfl, hD1, hD4⟩ : ∃ D : Nat, d = (D : Int) ∧ 1 ≤ D ∧ D ≤ 4 := by
        simp [inB] at hd
        exact ⟨d.toNat, by omega, by omega, by omega⟩
      have HE := hide (sparesT_yes hok hD1 hD4)
      have HOK := hide hok
      obtain ⟨⟨h1, h8⟩, hal⟩ := columnsOk_iff.1 hok
      have hsame := alikeB_iff.1 hal
      have hl := HH.out.1
      rw [hl] at h1 h8 hsame
      obtain ⟨b, off, rfl, _, hb, hc⟩ := HH.out.2.2 (by omega)
      have HC := hide hc
      have HS := hide hsame
      obtain ⟨L, hLe⟩ : ∃ L, L = (ts.getD 0 ByteArray.empty).size := ⟨_, rfl⟩
      have hL3 := (hsame 0 (by omega)).2
      rw [← hLe] at hL3
      have HLE := hide hLe
      have HL := hide hl
      clear hok hd hc hsame hal hLe hl HEM
      have hmkS := run_make_row' (P := Try.prog) 22 9 (.string ByteArray.empty) 16 Try.underlying22 Try.infoStr rfl .i64 .i64 D (by omega) (by omega)
      have hmkI := run_make_row' (P := Try.prog) 29 2 (.int .i64 0) 8 Try.underlying29 Try.infoI64 rfl .i64 .i64 L (by omega) (by omega)
      go_enter Try.func11, Try.ntmps11
      go_wp2_with fail
      refine (implColumnsOk_any _ n cap ts _ HH.out hn HTS.out).mono ?_
      rw [HOK.out]
      rintro e w1 ⟨rfl, b1⟩
      have HB1 := hide b1
      have hs1 := b1.size
      clear b1
      go_wp2_with fail
      go_loopw [26, 6, 7, 8, 9, 36] (fun i _ _ _ _ _ wr => ∃ k : Nat, k ≤ D ∧ i = .int .i64 (k : Int) ∧ wr.rowIs w1.heap.size 9 D (fun q => .string (if q < k then spareT ts q else ByteArray.empty)) ∧ Below w.heap.size w wr ∧ w1.heap.size < wr.heap.size) (fun i _ _ _ _ _ _ => D - (intOf i).toNat)
      case atStart => exact ⟨0, Nat.zero_le _, rfl, (World.rowIs_made w1 (.string ByteArray.empty) D 9).congr (fun _ _ => by simp), HB1.out.alloc hs1 _, by simp⟩
      case round =>
        obtain ⟨k, hk, rfl, hrow, hbel, hsz⟩ := hrel
        by_cases hlt : k < D
        · have hc0 : wr.cell? ⟨b, off, none⟩ = some (.string (ts.getD 0 ByteArray.empty)) := (hbel.cell (p := ⟨b, off, none⟩) (by show b < _; omega)).trans (HC.out 0 (by omega))
          have hlen0 : (ts.getD 0 ByteArray.empty).size = L := HLE.out.symm
          generalize ts.getD 0 ByteArray.empty = z0 at hc0 hlen0
          have HR := hide hrow
          have HBW := hide hbel
          have hbs := hbel.size
          clear hrow hbel HB1
          obtain ⟨wo, hwo⟩ : ∃ wo, wo = wr := ⟨_, rfl⟩
          subst hwo
          go_wp2_with fail
          go_loopw [36, 8, 9] (fun i _ _ wr => ∃ m : Nat, m ≤ n ∧ i = .int .i64 (m : Int) ∧ wr.rowIs wo.heap.size 2 L (fun q => .int .i64 (spareN ts k m q : Int)) ∧ Below wo.heap.size wo wr) (fun i _ _ _ => n - (intOf i).toNat)
          case atStart => exact ⟨0, Nat.zero_le _, rfl, (World.rowIs_made wo (.int .i64 0) L 2).congr (fun _ _ => by simp [spareN]), (Below.refl _ _).alloc (Nat.le_refl _) _⟩
          case round =>
            obtain ⟨m, hm, rfl, hrow, hbel⟩ := hrel
            clear hc0 hlen0
            by_cases hltm : m < n
            · obtain ⟨z, hz⟩ : ∃ z, z = ts.getD m ByteArray.empty := ⟨_, rfl⟩
              have hck : wr.cell? ⟨b, off + m, none⟩ = some (.string z) := by
                rw [hz]
                exact (hbel.cell (p := ⟨b, off + m, none⟩) (by show b < _; omega)).trans ((HBW.out.cell (p := ⟨b, off + m, none⟩) (by show b < _; omega)).trans (HC.out m hltm))
              have hzL : z.size = L := by rw [HLE.out, hz]; exact (HS.out m hltm).1
              have HZ := hide hz
              have HRI := hide hrow
              have HBI := hide hbel
              have hbi := hbel.size
              clear hrow hbel hz
              go_wp2_with fail
              refine (share_any m k wr (by omega) (by omega)).mono ?_
              rintro e w2 ⟨rfl, b2⟩
              have HB2 := hide b2
              have hs2 := b2.size
              clear b2
              go_wp2_with fail
              refine (elementsOf_any z (by omega) w2).mono ?_
              rintro e w3 ⟨rfl, r3, b3⟩
              rw [hzL] at r3
              have HR3 := hide r3
              have HB3 := hide b3
              have hs3 := b3.size
              have hl3 := r3.lt
              clear r3 b3
              obtain ⟨f, hf⟩ : ∃ f, f = factor m k := ⟨_, rfl⟩
              have hf8 : f < 256 := by rw [hf]; exact factor_lt (by omega) (by omega)
              rw [← hf]
              have HF := hide hf
              clear hf
              have hgo : wo.heap.size < wr.heap.size := HRI.out.lt
              have HG3 : Hid (w3.rowIs wo.heap.size 2 L (fun q => .int .i64 (spareN ts k m q : Int))) := row_below (row_below HRI.out HB2.out hgo) HB3.out (by omega)
              have HC3 : Hid (Calls Try.prog 40 #[.slice (some ⟨wo.heap.size, 0, none⟩) L L, .int .i64 (f : Int), .slice (some ⟨w2.heap.size, 0, none⟩) L L] w3 fun e w' => e = .returned (.tuple #[]) ∧ w'.rowIs wo.heap.size 2 L (addF 0 L f (fun q => .int .i64 (spareN ts k m q : Int)) (fun q => spareN ts k m q) (byteN z)) ∧ Aside wo.heap.size (wo.heap.size + 1) w3 w') :=
                addMultiple_any wo.heap.size 0 L L L f _ (fun q => spareN ts k m q) (byteN z) _ L L w2.heap.size (w2.heap.size + 1) w3 hf8 (by omega) (by omega) HG3.out (fun q _ => by simp) (fun q _ => spareN_lt ts (by omega) m q (by omega)) (fun q _ => byteN_lt z q) (Nat.le_refl _) (by omega) (owned_of_row HR3.out (Nat.le_refl _) (Nat.lt_succ_self _) hl3).reads (.inr (by omega))
              rw [hzL]
              go_wp2_with fail
              refine HC3.out.mono ?_
              rintro e w4 ⟨rfl, r4, a4⟩
              have HR4 : Hid (w4.rowIs wo.heap.size 2 L (fun q => .int .i64 (spareN ts k (m + 1) q : Int))) := by
                refine r4.congr fun q hq => ?_
                unfold addF
                rw [if_pos (by omega), Nat.sub_zero, HF.out, HZ.out]; rfl
              have HB4 : Hid (Below wo.heap.size wo w4) := HBI.out.trans ((HB2.out.mono hbi).trans ((HB3.out.mono (by omega)).trans (a4.below (Nat.le_refl _) (by omega))))
              clear r4 a4 HC3
              go_wp2_with fail
              exact ⟨⟨m + 1, by omega, by go_num, HR4.out, HB4.out⟩, by simp [intOf]; omega⟩
            · obtain rfl : m = n := by omega
              have HRD : Hid (Reads wo.heap.size (wo.heap.size + 1) wr (some ⟨wo.heap.size, 0, none⟩) L (fun q => .int .i64 (spareN ts k m q : Int))) := (owned_of_row hrow (Nat.le_refl _) (Nat.lt_succ_self _) hrow.lt).reads
              have HBI := hide hbel
              have hbi := hbel.size
              clear hrow hbel
              go_wp2_with fail
              refine (textOf_any _ L L (fun q => spareN ts k m q) (by omega) (fun q _ => spareN_lt ts (by omega) m q (by omega)) wr HRD.out).mono ?_
              rintro e w2 ⟨rfl, b2⟩
              rw [spareT_text HL.out HLE.out]
              have hrow2 : w2.rowIs w1.heap.size 9 D (fun q => .string (if q < k then spareT ts q else ByteArray.empty)) := row_below (row_below HR.out HBI.out hsz) b2 (by omega)
              have hco := hrow2.cell hlt
              have hfo := hrow2.frozen k
              have HNR : Hid ((w2.setCell ⟨w1.heap.size, k, none⟩ (.string (spareT ts k))).rowIs w1.heap.size 9 D (fun q => .string (if q < k + 1 then spareT ts q else ByteArray.empty))) := by
                refine (hrow2.set k _).congr fun q _ => ?_
                by_cases e1 : q = k
                · subst e1; simp
                · by_cases e2 : q < k
                  · simp [e1, e2, show q < k + 1 by omega]
                  · simp [e1, e2, show ¬ q < k + 1 by omega]
              have HNB : Hid (Below w.heap.size w (w2.setCell ⟨w1.heap.size, k, none⟩ (.string (spareT ts k)))) := (HBW.out.trans ((HBI.out.mono hbs).trans (b2.mono (by omega)))).setCell (p := ⟨w1.heap.size, k, none⟩) hs1 _
              have HNS : Hid (w1.heap.size < (w2.setCell ⟨w1.heap.size, k, none⟩ (.string (spareT ts k))).heap.size) := by
                show _ < _
                rw [Go.Deep.nblk_setCell]; exact hrow2.lt
              clear hrow2 b2
              generalize spareT ts k = sp at *
              go_wp2_with fail
              exact ⟨⟨k + 1, by omega, by go_num, HNR.out, HNB.out, HNS.out⟩, by simp [intOf]; omega⟩
        · obtain rfl : k = D := by omega
          have HOT : Hid (OwnTexts w.heap.size wr.heap.size wr (some ⟨w1.heap.size, 0, none⟩) k ((List.range k).map (spareT ts))) := by
            refine texts_row (by simp) (hrow.congr fun q hq => ?_) hs1 hsz (Nat.le_refl _)
            unfold cellT
            rw [List.getD_eq_getElem?_getD, List.getElem?_map, List.getElem?_range hq]
            simp [hq]
          have HBW := hide hbel
          clear hrow hbel
          go_wp2_with fail
          go_ret
          exact ⟨_, _, _, rfl, by omega, by rw [HE.out]; exact HOT.out, HBW.out⟩
end Go.Proofs.Ytbgjagmnpfcfaak
