/- Several texts in one: DrawText, WeaveSpec. -/
import Derived.Test.YtceidhlcbbikcanGreatDoorDrawBase
import Derived.Maps.AppendAt
import Derived.Test.YtceidhlcbbikcanGreatDoorJInfo
import Derived.Test.YtceidhlcbbikcanGreatDoorJBase
section
namespace Go.Proofs.YtceidhlcbbikcanGreatDoor
open Go.RowKit
set_option linter.unusedVariables false
set_option maxRecDepth 20000

theorem Tryz.infoU8d : (Tryz.prog.info? 5).map (fun i => (i.zero, i.size, i.bytes)) = some (some (.int .u8 0), 1, 1) := by kernel_rfl
def byteV (b : UInt8) : Value := .int .u8 (b.toNat : Int)
theorem byte_of (x : Int) (h0 : 0 ≤ x) (h1 : x ≤ 255) : ∃ u : UInt8, x = (u.toNat : Int) := by
  refine ⟨UInt8.ofNat x.toNat, ?_⟩
  rw [UInt8.toNat_ofNat']
  omega
theorem byteV_one (b : UInt8) : ∀ u ∈ [byteV b], u.oneCell' = true := by intro u hu; simp at hu; subst hu; rfl

theorem size_mk (l : List UInt8) : (⟨l.toArray⟩ : ByteArray).size = l.length := rfl

theorem ownBytes_of {w : World} {base e n : Nat} {v : Value} {l : List UInt8} (h : w.ownsRow base e 1 v n (l.map byteV)) {lo : Nat} (hlo : lo ≤ base) :
    ∃ a cap, v = .slice a n cap ∧ n ≤ cap ∧ OwnBytes lo w.heap.size w a n l := by
  obtain ⟨a, cap, rfl, hcap, hlen, _, how⟩ := owned_of_own h
  rw [List.length_map] at hlen
  refine ⟨a, cap, rfl, hcap, hlen, how.1, fun hn => ?_⟩
  obtain ⟨b, off, e, h1, h2, h3⟩ := how.2 hn
  refine ⟨b, off, e, Nat.le_trans hlo h1, h2, fun i hi => ?_⟩
  obtain ⟨h4, h5⟩ := h3 i hi
  refine ⟨h4.trans ?_, h5⟩
  show some ((l.map byteV).getD i (.int .i64 0)) = some (cellB l i)
  rw [List.getD_eq_getElem?_getD]
  simp [show i < l.length by omega, byteV, cellB, List.getD_eq_getElem?_getD]
end Go.Proofs.YtceidhlcbbikcanGreatDoor
end

section
namespace Go.Proofs.YtceidhlcbbikcanGreatDoor
open Go.RowKit
set_option linter.unusedVariables false
set_option maxRecDepth 20000

def woveOk (s : ByteArray) (d : Int) : Bool := inB d 1 16 && decide (s.size ≤ 600)
theorem woveOk_yes {s : ByteArray} {d : Int} (h : woveOk s d = true) : ∃ D : Nat, d = (D : Int) ∧ 1 ≤ D ∧ D ≤ 16 ∧ s.size ≤ 600 := by
  simp [woveOk, inB] at h
  exact ⟨d.toNat, by omega, by omega, by omega, by omega⟩
set_option maxHeartbeats 400000 in
theorem l5Told_any (s : ByteArray) (d : Int) (w : World) (hs : s.size ≤ 1048576) :
    Calls Tryz.prog 104 #[.string s, .int .i64 d] w fun e w' => e = .returned (.bool (woveOk s d)) ∧ w = w' := by
  cases hb : inB d 1 16
  · have HE : Hid (woveOk s d = false) := by show _ = _; simp [woveOk, hb]
    go_enter Tryz.func104, Tryz.ntmps104
    go_wp2_with fail
    refine (l1In_any _ _ _ _).mono ?_
    rw [hb]
    rintro e w1 ⟨rfl, rfl⟩
    go_wp2_with fail
    go_ret
    exact ⟨ret_bool HE.out.symm, rfl⟩
  · have HE : Hid (woveOk s d = decide ((s.size : Int) ≤ 600)) := by show _ = _; simp [woveOk, hb]; omega
    go_enter Tryz.func104, Tryz.ntmps104
    go_wp2_with fail
    refine (l1In_any _ _ _ _).mono ?_
    rw [hb]
    rintro e w1 ⟨rfl, rfl⟩
    go_wp2_with fail
    go_ret
    exact ⟨ret_bool HE.out.symm, rfl⟩

def natV (x : Nat) : Value := .int .i64 (x : Int)
set_option maxHeartbeats 1600000 in
theorem l5Order_own (n d : Nat) (w : World) (hn : n ≤ 600) (hd : 1 ≤ d) (hd16 : d ≤ 16) :
    Calls Tryz.prog 105 #[.int .i64 (n : Int), .int .i64 (d : Int)] w fun e w' => ∃ v, e = .returned v ∧ w'.ownsRow w.heap.size 2 1 v n ((Wv.order n d).map natV) ∧ Below w.heap.size w w' := by
  obtain ⟨i0, hi0, hz0, hz1, hz2⟩ := info_parts Tryz.infoI64
  have HO := hide (own_made0 w 2)
  go_enter Tryz.func105, Tryz.ntmps105
  go_wp2_with fail
  go_loopw [5, 6] (fun v r wr => ∃ R : Nat, R ≤ d ∧ r = .int .i64 (R : Int) ∧ wr.ownsRow w.heap.size 2 1 v (Wv.st n d R) ((Wv.orderTo n d R).map natV) ∧ Below w.heap.size w wr) (fun _ r _ => d - (intOf r).toNat)
  case atStart => exact ⟨0, Nat.zero_le _, rfl, HO.out, (Below.refl _ _).alloc (Nat.le_refl _) _⟩
  case round =>
    obtain ⟨R, hR, rfl, hown, hbel⟩ := hrel
    have HOWN := hide hown
    have HB := hide hbel
    clear hown hbel HO
    by_cases hlt : R < d
    · go_wp2_with fail
      go_loopw [5, 7] (fun v i wr => ∃ j I : Nat, i = .int .i64 (I : Int) ∧ I = R + d * j ∧ j ≤ Wv.cnt n d R ∧ wr.ownsRow w.heap.size 2 1 v (Wv.st n d R + j) ((Wv.orderTo n d R ++ Wv.row d R j).map natV) ∧ Below w.heap.size w wr) (fun _ i _ => n - (intOf i).toNat)
      case atStart => exact ⟨0, R, rfl, by omega, Nat.zero_le _, by simpa [Wv.row] using HOWN.out, HB.out⟩
      case round =>
        obtain ⟨j, I, rfl, hI, hj, hown, hbel⟩ := hrel
        have hc := Wv.cnt_lt (n := n) (d := d) (r := R) (t := j) (by omega)
        rw [← hI] at hc
        by_cases hIn : I < n
        · have HJ := hide (hc.2 hIn)
          have HI := hide hI
          have hl600 : Wv.st n d R + j ≤ 600 := by
            have h1 := hc.2 hIn
            have h2 := Wv.st_mono n d (show R + 1 ≤ d by omega)
            have h3 : Wv.st n d d = n := Wv.order_length (by omega)
            rw [Wv.st_succ] at h2
            omega
          obtain ⟨L, hL⟩ : ∃ L, L = Wv.st n d R + j := ⟨_, rfl⟩
          rw [← hL] at hown hl600
          have HL := hide hL
          have HO1 := hide (hown.alloc (.cells #[.int .i64 (I : Int)] 2))
          have HB1 := hide (hbel.alloc hbel.size (.cells #[.int .i64 (I : Int)] 2))
          clear hown hbel HOWN HB hc hI hj hL
          go_wp2_with (at_builtin; refine wpList_append_own _ rfl (.tmp 21) (.tmp 23) 132 rfl w.heap.size 2 i0 (.int .i64 0) 1 8 Tryz.underlying132 hi0 hz0 hz1 hz2 rfl (by decide) _ _ _ rfl HO1.out ⟨wr.heap.size, 0, none⟩ 1 1 [.int .i64 (I : Int)] rfl rfl (cell_one_new _ _ _) (by intro u hu; simp at hu; subst hu; rfl) (by unfold maxLen; omega) (by omega) HB1.out.size ?_; intro v' w1 hown hgrow _; have HB2 := hide (HB1.out.grown hgrow HB1.out.size (fun k hk => (HO1.out.lt k hk).1)); have HO2 := hide hown; clear hown hgrow)
          go_roundw
          case rel => exact ⟨j + 1, I + d, by go_num, by rw [HI.out, Nat.mul_add, Nat.mul_one]; omega, HJ.out, by
            have := HO2.out
            rw [Wv.row_succ, ← List.append_assoc, List.map_append, ← HI.out, ← Nat.add_assoc, ← HL.out]
            exact this, HB2.out⟩
          case measure => simp [intOf]; omega
        · have hj' : j = Wv.cnt n d R := by
            rcases Nat.lt_or_ge j (Wv.cnt n d R) with h | h
            · exact absurd (hc.1 h) hIn
            · omega
          subst hj'
          have HO1 := hide hown
          have HB1 := hide hbel
          clear hown hbel HOWN HB hc hI hj
          go_wp2_with fail
          go_roundw
          case rel => exact ⟨R + 1, by omega, by go_num, by rw [Wv.st_succ, Wv.orderTo_succ]; exact HO1.out, HB1.out⟩
          case measure => simp [intOf]; omega
    · obtain rfl : R = d := by omega
      go_wp2_with fail
      go_ret
      have hl : Wv.st n R R = n := Wv.order_length (by omega)
      exact ⟨_, rfl, by have := HOWN.out; rw [hl] at this; exact this, HB.out⟩
end Go.Proofs.YtceidhlcbbikcanGreatDoor
end

