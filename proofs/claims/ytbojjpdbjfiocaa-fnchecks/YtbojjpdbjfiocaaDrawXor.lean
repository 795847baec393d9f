/- The walk of DrawXored. -/
import Derived.Test.YtbojjpdbjfiocaaDrawText
namespace Go.Proofs.Ytbojjpdbjfiocaa
open Go.RowKit
set_option linter.unusedVariables false
set_option maxRecDepth 20000

set_option maxHeartbeats 800000 in
theorem drawXored_any (a : Option Addr) (n cap : Nat) (l : List UInt8) (w : World) {lo hi : Nat} (hB : Bytes lo hi w a n l) (hn : n ≤ 4096) :
    Calls Try.prog 11 #[.slice a n cap] w fun e w' => ∃ s t : ByteArray, e = .returned (.tuple #[.string s, .string t]) ∧ s.size ≤ 5 ∧ t.size ≤ 6 ∧ Below w.heap.size w w' := by
  go_enter Try.func11, Try.ntmps11
  go_wp2_with fail
  refine (l1New_any a n cap l w hB hn).mono ?_
  rintro e w1 ⟨p, rfl, hp, c1, b1⟩
  go_wp2_with fail
  refine (drawText_any p 5 w1 c1 (by omega) (by omega)).mono ?_
  rintro e w2 ⟨s, rfl, hs, c2, s2⟩
  have b2 := b1.trans (s2.below hp b1.size)
  have hs5 : s.size ≤ 5 := by omega
  have HB2 := hide b2
  clear b2 s2 hs
  go_wp2_with fail
  go_loopw [6, 7] (fun v i wr => ∃ (k : Nat) (t : ByteArray), k ≤ s.size ∧ i = .int .i64 k ∧ v = .string t ∧ t.size = k ∧ Cur wr p ∧ Below w.heap.size w wr) (fun _ i _ => s.size - (intOf i).toNat)
  case atStart => exact ⟨0, ⟨#[]⟩, Nat.zero_le _, rfl, rfl, rfl, c2, HB2.out⟩
  case round =>
    obtain ⟨k, t, hk, rfl, rfl, ht, hcr, hbel⟩ := hrel
    clear HB2
    by_cases hlt : k < s.size
    · have HB := hide hbel
      have HT := hide ht
      have ht6 : t.size ≤ 5 := by omega
      clear hbel ht
      go_wp2_with fail
      refine (l1Byte_any p wr hcr).mono ?_
      rintro e w3 ⟨z, rfl, z0, z1, c3, s3⟩
      obtain ⟨u, rfl⟩ := byte_of z z0 z1
      have b3 := HB.out.trans (s3.below hp HB.out.size)
      have hB : Bytes w3.heap.size (w3.heap.size + 1) (w3.alloc (.cells #[.int .u8 (u.toNat : Int)] 5)) (some ⟨w3.heap.size, 0, none⟩) 1 [u] := by
        have hb : (w3.alloc (.cells #[.int .u8 (u.toNat : Int)] 5)).heap[w3.heap.size]? = some (.cells #[.int .u8 (u.toNat : Int)] 5 (0, 0)) := by
          show (w3.heap.push _)[w3.heap.size]? = _
          simp
        refine ⟨rfl, by simp, fun _ => ⟨w3.heap.size, 0, rfl, Nat.le_refl _, Nat.lt_succ_self _, fun i hi => ?_⟩⟩
        obtain rfl : i = 0 := by omega
        simp only [World.cell?, Nat.zero_add, hb]
        rfl
      have hst := string_of (P := Try.prog) hB 22 9 5 1 Try.underlying22 Try.underlying5 Try.underlying9
      have HB3 := hide (b3.alloc b3.size (.cells #[.int .u8 (u.toNat : Int)] 5))
      have HC3 := hide (c3.alloc (.cells #[.int .u8 (u.toNat : Int)] 5))
      clear hB b3 s3 HB
      go_wp2_with fail
      go_roundw
      case rel => exact ⟨k + 1, _, by omega, by go_num, rfl, by rw [ByteArray.size_append, HT.out]; rfl, HC3.out, HB3.out⟩
      case measure => simp [intOf]; omega
    · have ht6 : t.size ≤ 5 := by omega
      have HB := hide hbel
      clear ht hbel
      go_wp2_with fail
      refine (l1Once_any p 8 wr hcr (by omega)).mono ?_
      rintro e w3 ⟨b, rfl, c3, s3⟩
      have b3 := HB.out.trans (s3.below hp HB.out.size)
      cases b
      · go_wp2_with fail
        go_ret2
        exact ⟨_, _, rfl, hs5, by omega, b3⟩
      · go_wp2_with fail
        go_ret2
        exact ⟨_, _, rfl, hs5, by rw [ByteArray.size_append]; show t.size + 1 ≤ 6; omega, b3⟩
end Go.Proofs.Ytbojjpdbjfiocaa
