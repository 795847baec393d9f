/- The program's readBody. -/
import Derived.Test.YtbgjagmnpfcfaalDoorPageErrAs
import Derived.Test.YtbgjagmnpfcfaalDoorLyMath
import Derived.Test.YtbgjagmnpfcfaalDoorHamImpl4
import Derived.Test.YtbgjagmnpfcfaalDoorWeaveImpl
import Derived.BigRegion
namespace Go.Proofs.YtbgjagmnpfcfaalDoor
open Go.RowKit
set_option linter.unusedVariables false
set_option maxRecDepth 20000

/-- What a refusal of readBody answers. -/
def Ref3 (aL aS aC aF : Addr) (e : Ending) : Prop := ∃ p a, e = .returned (.tuple #[.string ⟨#[]⟩, .int .i64 0, .iface 37 (.agg #[.string p, .iface 108 (.pointer (some a))])]) ∧ Four aL aS aC aF a

/-- Is a body told? -/
def told3 (s : ByteArray) : Bool := decide (2 ≤ s.size) && ((headT s).2.2 && (decide (s.size - 2 = 2 * byN (headT s).1 0) && (restT s).2.2))

set_option maxHeartbeats 1600000 in
theorem readBody_short (s : ByteArray) (w : World) {aB aL aS aC aF : Addr} (E : Errs w aB aL aS aC aF) (h2 : ¬ 2 ≤ s.size) :
    Calls Tryd.prog 19 #[.string s] w fun e w' => Ref3 aL aS aC aF e ∧ Below w.heap.size w w' := by
  have h2d : decide ((s.size : Int) < 2) = true := by simp; omega
  have cS := E.s
  clear E
  go_enter Tryd.func19, Tryd.ntmps19
  go_wp2_with fail
  go_region
  all_goals go_wp2_with fail
  all_goals go_ret3
  all_goals exact ⟨⟨_, _, rfl, .inr (.inl rfl)⟩, (Below.refl _ _).drew⟩
set_option maxHeartbeats 4000000 in
theorem readBody_two (s : ByteArray) (w : World) (hT : Tab w) {aB aL aS aC aF : Addr} (E : Errs w aB aL aS aC aF) (h2 : 2 ≤ s.size) (hs : s.size ≤ 1048576) (h t : ByteArray) (m n : Int) (one is : Bool) (hh : headT s = (h, m, one)) (ht : restT s = (t, n, is)) :
    Calls Tryd.prog 19 #[.string s] w fun e w' => (told3 s = true → e = .returned (.tuple #[.string t, .int .i64 (m + n), .nilIface])) ∧ (told3 s = false → Ref3 aL aS aC aF e) ∧ Below w.heap.size w w' := by
  have h2d : decide ((s.size : Int) < 2) = false := by simp; omega
  have g2 : (2 : Int) ≤ (s.size : Int) := by omega
  have HTB := hide hT
  clear hT
  have hx2 := extract_size2 s h2
  have hxr := extract_rest s h2
  have hhz : one = true → h.size = 1 := fun e => by
    have := healed_size (s := s.extract 0 2) (by rw [show healedAll (s.extract 0 2) = (h, m, one) from hh]; exact e)
    rw [show healedAll (s.extract 0 2) = (h, m, one) from hh] at this
    have h' : (s.extract 0 2).size = 2 * h.size := this
    omega
  have hmb : 0 ≤ m ∧ m ≤ 300 := by have := healed_fixed (s.extract 0 2); rw [show healedAll (s.extract 0 2) = (h, m, one) from hh] at this; exact this
  have hnb : 0 ≤ n ∧ n ≤ 300 := by have := healed_fixed (unwoven (s.extract 2 s.size) 2); rw [show healedAll (unwoven (s.extract 2 s.size) 2) = (t, n, is) from ht] at this; exact this
  obtain ⟨Q, hQ⟩ : ∃ Q, Q = byN h 0 := ⟨_, rfl⟩
  have hQl : Q < 256 := by rw [hQ]; exact byN_lt _ _
  have hb0 : one = true → ∀ hx : 0 < h.size, (h[0]'hx).toNat = Q := fun _ hx => by rw [hQ]; exact byN_at h 0 hx
  have HG : Hid (told3 s = (one && (decide (s.size - 2 = 2 * Q) && is))) := by show _ = _; simp [told3, h2, hh, ht, hQ]
  have HH := hide hh
  have HR := hide ht
  clear hh ht hQ
  go_enter Tryd.func19, Tryd.ntmps19
  go_wp2_with fail
  refine (implHealedAll_any (s.extract 0 2) _ HTB.out (by omega)).mono ?_
  rw [show healedAll (s.extract 0 2) = (h, m, one) from HH.out]
  unfold toldV
  rintro e w1 ⟨rfl, b1⟩
  have HB1 := hide b1
  have E1 := E.here b1
  clear b1
  cases one
  · have HGF : Hid (told3 s = false) := by show _ = _; rw [HG.out]; rfl
    have cL := E1.l
    clear E E1 hhz hb0 HG
    go_wp2_with fail
    go_region
    all_goals go_wp2_with fail
    all_goals go_ret3
    all_goals exact ⟨(fun hg => by rw [HGF.out] at hg; cases hg), fun _ => ⟨_, _, rfl, .inl rfl⟩, HB1.out.drew⟩
  · have hz1 := hhz rfl
    have hb1 := hb0 rfl (by omega)
    clear hhz hb0
    by_cases hlen : s.size - 2 = 2 * Q
    · have hne : (((s.size - 2 : Nat) : Int) != 2 * (Q : Int)) = false := by simp; omega
      have HGL : Hid (told3 s = is) := by show _ = _; rw [HG.out]; simp [hlen]
      clear HG hlen
      go_wp2_with fail
      refine (implUnwoven_any (s.extract 2 s.size) 2 _ (by omega)).mono ?_
      rintro e w2 ⟨rfl, b2⟩
      have HB2 := hide (below_here HB1.out b2)
      clear b2 HB1 E1
      go_wp2_with fail
      refine (implHealedAll_any (unwoven (s.extract 2 s.size) 2) _ (HTB.out.here HB2.out) (Nat.le_trans (unwoven_size_le _ _) (by omega))).mono ?_
      rw [show healedAll (unwoven (s.extract 2 s.size) 2) = (t, n, is) from HR.out]
      unfold toldV
      rintro e w3 ⟨rfl, b3⟩
      have HB3 := hide (below_here HB2.out b3)
      have E3 := E.here HB3.out
      clear b3 HB2 E
      cases is
      · have cL := E3.l
        clear E3
        go_wp2_with fail
        go_region
        all_goals go_wp2_with fail
        all_goals go_ret3
        all_goals exact ⟨(fun hg => by rw [HGL.out] at hg; cases hg), fun _ => ⟨_, _, rfl, .inl rfl⟩, HB3.out.drew⟩
      · clear E3
        go_wp2_with fail
        go_ret3
        exact ⟨fun _ => rfl, (fun hg => by rw [HGL.out] at hg; cases hg), HB3.out⟩
    · have hne : (((s.size - 2 : Nat) : Int) != 2 * (Q : Int)) = true := by simp; omega
      have HGF : Hid (told3 s = false) := by show _ = _; rw [HG.out]; simp [hlen]
      have cS := E1.s
      clear E E1 HG hlen
      go_wp2_with fail
      go_region
      all_goals go_wp2_with fail
      all_goals go_ret3
      all_goals exact ⟨(fun hg => by rw [HGF.out] at hg; cases hg), fun _ => ⟨_, _, rfl, .inr (.inl rfl)⟩, HB1.out.drew⟩
end Go.Proofs.YtbgjagmnpfcfaalDoor
