/- For every slice of bytes the law FnBits returns true and leaves its argument as it was; no condition. -/
import Derived.Test.YtgnfibdgoghkpaaRows
import Derived.Test.YtgnfibdgoghkpaaBitsLaw
import Derived.Test.YtgnfibdgoghkpaaDraw1
import Derived.Test.YtgnfibdgoghkpaaWalkX
import Derived.Test.YtgnfibdgoghkpaaWalkY
import Derived.Test.YtgnfibdgoghkpaaWalkF
import Derived.Test.YtgnfibdgoghkpaaWalkWt
import Derived.Deep.DeepCutAuto
import Derived.Maps.AppendAt
import Derived.WalkKit
import Derived.ProofKit
import Derived.OpenShut
import Derived.ShutString
import Derived.ChangeOld
import Derived.Below
namespace Go.Proofs.Ytgnfibdgoghkpaa.fnBits
open Go.ChangeShapes Go.WideShapes Go.ChangeAt Go.RowKit
open Go.ChangeMaps (open_string shut_string)
set_option linter.unusedVariables false

theorem own : ownKnob Try.prog.godebug = none := by kernel_rfl
theorem laidOut : laidOutB Try.prog = true := by kernel_rfl

/-- WHAT THE WALK IS TOLD OF A SLICE OF INTEGERS THAT CAME IN: it is nil; or it leads to a row of 'cap' cells, the numbers 'zs' (the first 'len' are its elements, the rest its spare room), each fitting its kind. -/
def IsRow (k : IntKind) (w : World) (a : Option Addr) (len cap : Nat) (zs : List Int) : Prop :=
  (a = none ∧ len = 0 ∧ cap = 0 ∧ zs = []) ∨
  ∃ x, a = some x ∧ len ≤ cap ∧ cap ≤ maxLen ∧ zs.length = cap ∧ (∀ i, i < zs.length → w.cell? (x.add i) = some (.int k (zs.getD i 0))) ∧ ∀ n ∈ zs, (Lit.int k n).wf = true

theorem bytes_of {w : World} {a : Option Addr} {len cap : Nat} {zs : List Int} (h : IsRow .u8 w a len cap zs) : Bytes 0 w.heap.size w a len ((zs.take len).map fun z => UInt8.ofNat z.toNat) := by
  rcases h with ⟨rfl, rfl, rfl, rfl⟩ | ⟨x, rfl, hl, hm, hz, hc, hw⟩
  · exact ⟨rfl, Nat.le_refl _, fun h => absurd h (Nat.lt_irrefl _)⟩
  · refine ⟨by rw [List.length_map, List.length_take]; omega, Nat.le_refl _, fun hn => ?_⟩
    obtain ⟨b, off, spot⟩ := x
    have h0 := hc 0 (by omega)
    have hs : spot = none := by simpa [Addr.add] using World.cell?_spot h0
    subst hs
    refine ⟨b, off, rfl, Nat.zero_le _, World.block_lt_of_cell? _ _ h0, fun i hi => ?_⟩
    have hi' : w.cell? ⟨b, off + i, none⟩ = some (.int .u8 (zs.getD i 0)) := by
      have hi'' := hc i (by omega)
      simp only [Addr.add] at hi''
      split at hi''
      · rename_i e; subst e; exact hi''
      · exact hi''
    have hil : i < zs.length := by omega
    have hwf := bounds_u8 (hw (zs.getD i 0) (by rw [List.getD_eq_getElem?_getD, List.getElem?_eq_getElem hil]; exact List.getElem_mem hil))
    have e : ((zs.take len).map fun z => UInt8.ofNat z.toNat).getD i 0 = UInt8.ofNat (zs.getD i 0).toNat := by
      rw [List.getD_eq_getElem?_getD, List.getElem?_map, List.getElem?_take, if_pos hi, List.getD_eq_getElem?_getD, List.getElem?_eq_getElem hil]; rfl
    rw [hi', cellB, e, UInt8.toNat_ofNat']
    congr 2
    omega

set_option maxHeartbeats 3200000 in
set_option maxRecDepth 100000 in

theorem walk (a0 : Option Addr) (len0 cap0 : Nat) (z0 : List Int) (w : World) (w0 : IsRow .u8 w a0 len0 cap0 z0) :
    Calls Try.prog 3 #[.slice a0 len0 cap0] w fun e w' => e = .returned (.bool true) ∧ Below w.heap.size w w' := by
  obtain ⟨l, hA⟩ : ∃ l, Bytes 0 w.heap.size w a0 len0 l := ⟨_, bytes_of w0⟩
  have hm63 : len0 ≤ 9223372036854775807 := by
    rcases w0 with ⟨_, rfl, _, _⟩ | ⟨x, _, hl, hm, _⟩
    · omega
    · unfold maxLen at hm; omega
  clear w0
  by_cases hbig : 4096 < len0
  · go_enter Try.func3, Try.ntmps3
    go_wp2_with fail
    refine (big_any a0 len0 cap0 w hm63).mono ?_
    rintro e w1 ⟨rfl, rfl⟩
    have hd : decide (4096 < len0) = true := by simpa using hbig
    rw [hd]
    go_wp2_with fail
    go_ret
    exact ⟨rfl, Below.refl _ _⟩
  · have hn : len0 ≤ 4096 := by omega
    go_enter Try.func3, Try.ntmps3
    go_wp2_with fail
    refine (big_any a0 len0 cap0 w hm63).mono ?_
    rintro e w1 ⟨rfl, rfl⟩
    have hd : decide (4096 < len0) = false := by simpa using hbig
    rw [hd]
    clear hd
    go_wp2_with fail
    refine (drawBitsText_any a0 len0 cap0 l w hA hn).mono ?_
    rintro e x1 ⟨s, rfl, hs, B1⟩
    go_wp2_with fail
    refine (implBits_any s x1 (by omega)).mono ?_
    rintro e x2 ⟨pb, nb, cb, rfl, hcb, ob, b2⟩
    have hnb : nb ≤ 4096 := by have := ob.1; have := bitsOf_len s; omega
    have B2 := below_here B1 b2
    go_wp2_with fail
    refine (drawBytes_any a0 len0 cap0 l x2 (hA.later B2 (Nat.le_refl _)) hn).mono ?_
    rintro e x3 ⟨pd, nd, cd, D, rfl, hcd, hnd, od, b3⟩
    have B3 := below_here B2 b3
    go_wp2_with fail
    refine (drawXored_any a0 len0 cap0 l x3 (hA.later B3 (Nat.le_refl _)) hn).mono ?_
    rintro e x4 ⟨x, y, rfl, hx, hy, b4⟩
    have B4 := below_here B3 b4
    go_wp2_with fail
    refine (drawApart_any a0 len0 cap0 l x4 (hA.later B4 (Nat.le_refl _)) hn).mono ?_
    rintro e x5 ⟨pa, na, ca, A, pc, nc, cc, C, rfl, hca, hna, oa, hcc, hnc, oc, b5⟩
    have B5 := below_here B4 b5
    go_wp2_with fail
    refine (drawFlipped_any a0 len0 cap0 l x5 (hA.later B5 (Nat.le_refl _)) hn).mono ?_
    rintro e x6 ⟨pf, nf, cf, F, q, rfl, hcf, hnf, of, b6⟩
    have B6 := below_here B5 b6
    go_wp2_with fail
    refine (implFlipped_any pf nf cf F q x6 of.ints (by omega)).mono ?_
    rintro e x7 ⟨pg, ng, cg, rfl, hcg, og, b7⟩
    have hng : ng ≤ 4097 := by have := og.1; have := flipped_len F q; have := of.1; omega
    have B7 := below_here B6 b7
    have z12 := B1.size
    have z2 := b2.size
    have z3 := b3.size
    have z4 := b4.size
    have z5 := b5.size
    have z6 := b6.size
    have z7 := b7.size
    -- all that was drawn, in the world behind
    have ob7 := ((((ob.later b3 (by omega)).later b4 (by omega)).later b5 (by omega)).later b6 (by omega)).later b7 (by omega)
    have od7 := (((od.later b4 (by omega)).later b5 (by omega)).later b6 (by omega)).later b7 (by omega)
    have oa7 := (oa.later b6 (by omega)).later b7 (by omega)
    have oc7 := (oc.later b6 (by omega)).later b7 (by omega)
    have of7 := of.later b7 (by omega)
    clear ob od oa oc of b2 b3 b4 b5 b6 b7 B1 B2 B3 B4 B5 B6
    go_wp2_with fail
    refine (specBits_any s x7 (by omega)).mono ?_
    rintro e x8 ⟨ps, ns, cs, rfl, _, os, b8⟩
    have hns : ns ≤ 4096 := by have := os.1; have := bitsOf_len s; omega
    have z8 := b8.size
    go_wp2_with fail
    refine (like_any pb nb cb _ ps ns cs _ x8 (ob7.later b8 (by omega)).ints os.ints (by omega) (by omega)).mono ?_
    rintro e x9 ⟨rfl, b9⟩
    have z9 := b9.size
    have B9 := below_here b8 b9
    have BB9 := below_here B7 B9
    have ob9 := ob7.later B9 (by omega)
    have od9 := od7.later B9 (by omega)
    have oa9 := oa7.later B9 (by omega)
    have oc9 := oc7.later B9 (by omega)
    have of9 := of7.later B9 (by omega)
    have og9 := og.later B9 (by omega)
    clear ob7 od7 oa7 oc7 of7 og os b8 b9 B9 B7
    go_wp2_with fail
    refine (implBytes_any pd nd cd D x9 od9.ints (by omega) hcd).mono ?_
    rintro e y1 ⟨rfl, c1⟩
    go_wp2_with fail
    refine (specBytes_any pd nd cd D y1 (od9.later c1 (by omega)).ints (by omega)).mono ?_
    rintro e y2 ⟨rfl, c2⟩
    have C2 := below_here c1 c2
    go_wp2_with fail
    refine (implXored_any x y y2 (by omega) (by omega)).mono ?_
    rintro e y3 ⟨rfl, c3⟩
    have C3 := below_here C2 c3
    go_wp2_with fail
    refine (specXored_any x y y3 (by omega) (by omega)).mono ?_
    rintro e y4 ⟨rfl, c4⟩
    have C4 := below_here C3 c4
    have w4 := C4.size
    go_wp2_with fail
    refine (implApart_any pa na ca A pc nc cc C y4 (oa9.later C4 (by omega)).ints (oc9.later C4 (by omega)).ints (by omega) (by omega) hca hcc).mono ?_
    rintro e y5 ⟨rfl, c5⟩
    have C5 := below_here C4 c5
    go_wp2_with fail
    refine (specApart_any pa na ca A pc nc cc C y5 (oa9.later C5 (by omega)).ints (oc9.later C5 (by omega)).ints (by omega) (by omega)).mono ?_
    rintro e y6 ⟨rfl, c6⟩
    have C6 := below_here C5 c6
    go_wp2_with fail
    refine (specFlipped_any pf nf cf F q y6 (of9.later C6 (by omega)).ints (by omega)).mono ?_
    rintro e y7 ⟨pt, nt, ct, rfl, _, ot, c7⟩
    have hnt : nt ≤ 4097 := by have := ot.1; have := flipped_len F q; have := of9.1; omega
    have C7 := below_here C6 c7
    go_wp2_with fail
    refine (like_any pg ng cg _ pt nt ct _ y7 (og9.later C7 (by omega)).ints ot.ints (by omega) (by omega)).mono ?_
    rintro e y8 ⟨rfl, c8⟩
    have C8 := below_here C7 c8
    go_wp2_with fail
    refine (implWeight_any pd nd cd D y8 (od9.later C8 (by omega)).ints (by omega)).mono ?_
    rintro e y8' ⟨rfl, rfl⟩
    go_wp2_with fail
    refine (specWeight_any pd nd cd D y8 (od9.later C8 (by omega)).ints (by omega)).mono ?_
    rintro e y8' ⟨rfl, rfl⟩
    go_wp2_with fail
    refine (implBitsOk_any pd nd cd D y8 (od9.later C8 (by omega)).ints (by omega)).mono ?_
    rintro e y8' ⟨rfl, rfl⟩
    go_wp2_with fail
    refine (specBitsOk_any pd nd cd D y8 (od9.later C8 (by omega)).ints (by omega)).mono ?_
    rintro e y8' ⟨rfl, rfl⟩
    have BBy := below_here BB9 C8
    have w8 := C8.size
    have oby := ob9.later C8 (by omega)
    have oay := oa9.later C8 (by omega)
    have ocy := oc9.later C8 (by omega)
    have ofy := of9.later C8 (by omega)
    have ogy := og9.later C8 (by omega)
    clear ob9 od9 oa9 oc9 of9 og9 ot c1 c2 c3 c4 c5 c6 c7 c8 C2 C3 C4 C5 C6 C7 C8 BB9
    go_upto_region 12 with fail
    go_cut [102] (fun c wx => c = .bool false ∧ Below y8.heap.size y8 wx)
    case first =>
      by_cases hb0 : 0 < nb
      · have hbs := bytes_bits (s := s) (by have := oby.1; omega)
        have hpos : (0 : Int) < (nb : Int) := by omega
        go_wp2_with fail
        refine (implBytes_any pb nb cb (bitsOf s) y8 oby.ints (by omega) hcb).mono ?_
        rw [hbs]
        rintro e u1 ⟨rfl, d1⟩
        go_wp2_with fail
        go_meet
        exact ⟨rfl, d1⟩
      · have hpos : decide ((0 : Int) < (nb : Int)) = false := by simp; omega
        go_wp2_with fail
        go_meet
        exact ⟨rfl, Below.refl _ _⟩
    case rest =>
      obtain ⟨rfl, hbc⟩ := hcut
      have BB1 := below_here BBy hbc
      have w9 := hbc.size
      have oa1 := oay.later hbc (by omega)
      have oc1 := ocy.later hbc (by omega)
      have of1 := ofy.later hbc (by omega)
      have og1 := ogy.later hbc (by omega)
      clear oby oay ocy ofy ogy hbc BBy
      go_upto_region 14 with fail
      go_cut [116] (fun c wx => c = .bool false ∧ Below wc.heap.size wc wx)
      case first =>
        by_cases hxy : x.size = y.size
        · have htw := xored_twice x y hxy
          have hsz2 := xored_size x y hxy
          have heq : ((x.size : Int) == (y.size : Int)) = true := by simp; omega
          have HTW := hide htw
          have HSZ := hide hsz2
          clear htw hsz2 hxy
          go_wp2_with fail
          refine (implXored_any x y wc (by omega) (by omega)).mono ?_
          rintro e u1 ⟨rfl, d1⟩
          go_wp2_with fail
          refine (implXored_any (xored x y) y u1 (by rw [HSZ.out]; omega) (by omega)).mono ?_
          rw [HTW.out]
          rintro e u2 ⟨rfl, d2⟩
          go_wp2_with fail
          go_meet
          exact ⟨rfl, below_here d1 d2⟩
        · have heq : ((x.size : Int) == (y.size : Int)) = false := by simp; omega
          clear hxy
          go_wp2_with fail
          go_meet
          exact ⟨rfl, Below.refl _ _⟩
      case rest =>
        obtain ⟨rfl, hbc2⟩ := hcut
        have BB2 := below_here BB1 hbc2
        have w10 := hbc2.size
        have oa2 := oa1.later hbc2 (by omega)
        have oc2 := oc1.later hbc2 (by omega)
        have of2 := of1.later hbc2 (by omega)
        have og2 := og1.later hbc2 (by omega)
        clear oa1 oc1 of1 og1 hbc2 BB1
        go_upto_region 16 with fail
        go_cut [133] (fun c wx => c = .bool false ∧ Below wc.heap.size wc wx)
        case first =>
          by_cases hg0 : 0 < ng
          · have hff := flip_facts (xs := F) (p := q) (by have := og2.1; omega)
            have HF1 := hide hff.1
            have HF2 := hide hff.2
            have hpos : (0 : Int) < (ng : Int) := by omega
            clear hff
            go_wp2_with fail
            refine (implApart_any pf nf cf F pg ng cg _ wc of2.ints og2.ints (by omega) (by omega) hcf hcg).mono ?_
            rw [HF1.out]
            rintro e u1 ⟨rfl, d1⟩
            have v1 := d1.size
            go_wp2_with fail
            refine (implFlipped_any pg ng cg _ q u1 (og2.later d1 (by omega)).ints (by omega)).mono ?_
            rw [HF2.out]
            rintro e u2 ⟨pr, nr, cr, rfl, _, or2, d2⟩
            have hnr : nr ≤ 4097 := by have := or2.1; have := of2.1; omega
            have D2 := below_here d1 d2
            have v2 := D2.size
            go_wp2_with fail
            refine (like_any pr nr cr F pf nf cf F u2 or2.ints (of2.later D2 (by omega)).ints (by omega) (by omega)).mono ?_
            rintro e u3 ⟨rfl, d3⟩
            go_wp2_with fail
            go_meet
            exact ⟨rfl, below_here D2 d3⟩
          · have hpos : decide ((0 : Int) < (ng : Int)) = false := by simp; omega
            go_wp2_with fail
            go_meet
            exact ⟨rfl, Below.refl _ _⟩
        case rest =>
          obtain ⟨rfl, hbc3⟩ := hcut
          have BB3 := below_here BB2 hbc3
          have w11 := hbc3.size
          have oa3 := oa2.later hbc3 (by omega)
          have oc3 := oc2.later hbc3 (by omega)
          clear oa2 oc2 of2 og2 hbc3 BB2
          go_wp2_with fail
          refine (implApart_any pa na ca A pc nc cc C wc oa3.ints oc3.ints (by omega) (by omega) hca hcc).mono ?_
          rintro e t1 ⟨rfl, d1⟩
          have D1 := below_here BB3 d1
          have v1 := d1.size
          have oa4 := oa3.later d1 (by omega)
          have oc4 := oc3.later d1 (by omega)
          clear oa3 oc3 d1 BB3
          by_cases hN : 0 ≤ apart A C
          · have hne : ¬ apart A C < 0 := by omega
            have hal := oa4.1
            have HAL := hide hal
            have HEQ := hide (apart_eq hN)
            have HCM := hide (apart_comm A C)
            have HTR := hide (fun e he hl => apart_tri (a := A) (c := C) (e := e) hN he hl)
            have HNO := hide (apart_noughts (a := A) (c := C) hN)
            obtain ⟨i0, hi0, hz0, hz1, hz2⟩ := info_parts Try.infoI64d
            have HO := hide (own_made0 t1 2)
            have hb0 : apart A C ≤ 4096 := by
              obtain ⟨q1, q2, q3⟩ := apart_inv hN
              rw [apart_yes q1 q2 q3]
              have := dist_le A C
              have := bits_len q2
              omega
            obtain ⟨N, hNN⟩ : ∃ N, N = apart A C := ⟨_, rfl⟩
            rw [← hNN] at hN hne hb0 ⊢
            have HNN := hide hNN
            clear hal hNN
            go_wp2_with fail
            go_loopw [14, 15] (fun v i wr => ∃ L : List Int, L.length ≤ na ∧ L.all bit = true ∧ i = .int .i64 (L.length : Nat) ∧ wr.ownsRow t1.heap.size 2 1 v L.length (L.map (Value.int .i64)) ∧ Below t1.heap.size t1 wr) (fun _ i _ => na - (intOf i).toNat)
            case atStart => exact ⟨[], Nat.zero_le _, rfl, rfl, HO.out, (Below.refl _ _).alloc (Nat.le_refl _) _⟩
            case round =>
              obtain ⟨L, hL, hLb, rfl, hown, hbel⟩ := hrel
              clear HO
              obtain ⟨k, hk⟩ : ∃ k, k = L.length := ⟨_, rfl⟩
              rw [← hk] at hL hown ⊢
              have HK := hide hk
              have HLB := hide hLb
              have HOWN := hide hown
              have HB := hide hbel
              have hbs := hbel.size
              clear hk hLb hown hbel
              by_cases hlt : k < na
              · go_wp2_with fail
                refine (pick_any a0 len0 cap0 l _ 2 wr (hA.later (below_here D1 HB.out) (Nat.le_refl _)) hn (by omega) (by omega) (by omega) (by omega)).mono ?_
                rintro e w9 ⟨z, rfl, z0, z1, rfl⟩
                have HO2 := hide (HOWN.out.alloc (.cells #[.int .i64 z] 2))
                have HB2 := hide (HB.out.alloc hbs (.cells #[.int .i64 z] 2))
                clear HOWN HB
                go_wp2_with (at_builtin; (refine wpList_append_own _ rfl (.tmp 146) (.tmp 151) 25 rfl t1.heap.size 2 i0 (.int .i64 0) 1 8 Try.underlying25 hi0 hz0 hz1 hz2 rfl (by decide) _ _ _ rfl HO2.out ⟨wr.heap.size, 0, none⟩ 1 1 [.int .i64 z] rfl rfl (cell_one_new _ _ _) (ints_one [z]) (by unfold maxLen; omega) (by omega) (by simp; omega) ?_); intro v' w8 hown hgrow _; have HO3 := hide hown; have HB3 := hide (HB2.out.grown hgrow (by simp; omega) (fun k hk => (HO2.out.lt k hk).1)); clear hown hgrow)
                go_roundw
                case rel => exact ⟨L ++ [z], by rw [List.length_append, ← HK.out]; exact hlt, by rw [List.all_append, HLB.out]; simp [bit]; omega, by rw [List.length_append, ← HK.out]; go_num, by rw [List.length_append, List.map_append, ← HK.out]; exact HO3.out, HB3.out⟩
                case measure => simp [intOf]; omega
              · have hkn : k = na := by omega
                subst hkn
                obtain ⟨pe, ce, rfl, hce, _, _, how⟩ := owned_of_own HOWN.out
                have oe : OwnInts t1.heap.size wr.heap.size wr pe k L := ⟨HK.out.symm, how.congr (fun i hi => map_cell L i (by rw [← HK.out]; exact hi))⟩
                obtain ⟨t2, t3, t4, t5, t6⟩ := HTR.out L HLB.out (by rw [← HK.out, HAL.out])
                have eq1 := HEQ.out
                rw [← HNN.out] at eq1 t2
                have HT2 := hide t2
                clear how t2
                have hmk := run_make_row' (P := Try.prog) 25 2 (.int .i64 0) 8 Try.underlying25 Try.infoI64d rfl .i64 .i64 k (by omega) (by omega)
                have oaw := oa4.later HB.out (by omega)
                have ocw := oc4.later HB.out (by omega)
                have BT := below_here D1 HB.out
                go_wp2_with fail
                refine (like_any pa k ca A pc nc cc C wr oaw.ints ocw.ints (by omega) (by omega)).mono ?_
                rintro e r1 ⟨rfl, g1⟩
                have k1 := g1.size
                go_wp2_with fail
                refine (implApart_any pc nc cc C pa k ca A r1 (ocw.later g1 (by omega)).ints (oaw.later g1 (by omega)).ints (by omega) (by omega) hcc hca).mono ?_
                rw [HCM.out, ← HNN.out]
                rintro e r2 ⟨rfl, g2⟩
                have G2 := below_here g1 g2
                go_wp2_with fail
                refine (implApart_any pa k ca A pe k ce L r2 (oaw.later G2 (by omega)).ints (oe.later G2 (by omega)).ints (by omega) (by omega) hca hce).mono ?_
                rintro e r3 ⟨rfl, g3⟩
                have G3 := below_here G2 g3
                go_wp2_with fail
                refine (implApart_any pe k ce L pc nc cc C r3 (oe.later G3 (by omega)).ints (ocw.later G3 (by omega)).ints (by omega) (by omega) hce hcc).mono ?_
                rintro e r4 ⟨rfl, g4⟩
                have G4 := below_here G3 g4
                have k4 := G4.size
                have hle := HT2.out
                have hrow := World.rowIs_made r4 (.int .i64 0) k 2
                have bal := (Below.refl r4.heap.size r4).alloc (Nat.le_refl _) (.cells (madeCells #[.int .i64 0] k) 2)
                have oz : OwnInts r4.heap.size (r4.heap.size + 1) (r4.alloc (.cells (madeCells #[.int .i64 0] k) 2)) (some ⟨r4.heap.size, 0, none⟩) k (List.replicate k 0) :=
                  ⟨by simp, (owned_of_row hrow (Nat.le_refl _) (Nat.lt_succ_self _) (by simp)).congr (fun i hi => by simp [cellI, List.getD_eq_getElem?_getD, hi])⟩
                have G5 := below_here G4 bal
                have hno := HNO.out
                rw [HAL.out] at hno
                have HNO' := hide hno
                clear hno hrow
                go_wp2_with fail
                refine (implApart_any pa k ca A (some ⟨r4.heap.size, 0, none⟩) k k (List.replicate k 0) _ (oaw.later G5 (by omega)).ints oz.ints (by omega) (by omega) hca (Nat.le_refl _)).mono ?_
                rw [HNO'.out]
                rintro e r6 ⟨rfl, g6⟩
                have G6 := below_here G5 g6
                go_wp2_with fail
                refine (implWeight_any pa k ca A r6 (oaw.later G6 (by omega)).ints (by omega)).mono ?_
                rintro e r7 ⟨rfl, rfl⟩
                go_wp2_with fail
                go_ret
                exact ⟨rfl, below_here BT G6⟩
          · have hneg : apart A C < 0 := by omega
            go_wp2_with fail
            go_ret
            exact ⟨rfl, D1⟩

/-! ### THE ROW's STEP: WRITTEN OUT: LEAVE IT -/
set_option maxRecDepth 100000 in
theorem lifted (os : Os) (started : os.Started) (H : Type) (enc : TypeId × Value → H) :
    ReturnsInHanded {} Try.checked os 3 .any (Rows.fnBitsSpec.pre6 enc Try.prog Try.f3 Rows.fnBitsRow.domain false) (Rows.fnBitsSpec.post enc Try.prog Try.f3 false true false false) := by
  refine returnsInHanded_of_change (C := Try.checked) own started (by kernel_rfl) Try.func3
    (ChangeSpec.witness6 (enc := enc) (C := Try.checked) false ⟨#[], #[.slice none 0 0], []⟩ 8 (by kernel_rfl) (by kernel_rfl) (by kernel_rfl) (by kernel_rfl)) ?_
  intro W base args ds gs before hval0 hW hcnd _
  have hval : ∀ (j : Nat) t v, Try.f3.params[j]? = some t → args[j]? = some v → Value.okWide Try.prog W .any base t v := hval0
  have hW' := hW
  obtain ⟨p, q, hA0, hV, rfl, hfz, hnd⟩ := hW
  have hA : DataW.TrodAll enc Try.prog W 0 (fun _ => true) true Try.f3.params.toList args.toList ds p := hA0
  rw [Try.params3] at hA hval
  obtain ⟨v0, vs0, d0, ds0, p0, q0, hargs, rfl, rfl, h0, r0⟩ := trodAll_cons hA
  obtain ⟨rfl, rfl, rfl⟩ := trodAll_nil r0
  obtain rfl : args = #[v0] := by cases args; simp_all
  obtain ⟨rfl, rfl⟩ := trodVars_none hV
  obtain ⟨a0, len0, cap0, rfl⟩ := okWide_slice Try.underlying22 (hval 0 22 v0 rfl rfl)
  have k0 := h0
  have lt0 : ∀ x ∈ p0, x.block < W.heap.size := by obtain ⟨m, hm⟩ := k0; exact DataW.trod_lt m _ _ _ hm
  obtain ⟨z0, w0⟩ : ∃ zs, IsRow .u8 W a0 len0 cap0 zs := by
    obtain ⟨fuel, hf⟩ := h0
    rcases open_ints Try.underlying22 Try.underlying5 (by kernel_rfl) hf with ⟨hcs, _⟩ | ⟨x, l, c, zs, hcs, _, hl, hm, hz, _, hcell, hwz⟩
    · simp [Value.cells] at hcs
      obtain ⟨rfl, rfl, rfl⟩ := hcs
      exact ⟨[], .inl ⟨rfl, rfl, rfl, rfl⟩⟩
    · simp [Value.cells] at hcs
      obtain ⟨rfl, rfl, rfl⟩ := hcs
      exact ⟨zs, .inr ⟨_, rfl, hl, hm, by simpa using hz, hcell, hwz⟩⟩
  clear hA0 hval0
  refine (walk a0 len0 cap0 z0 W w0).mono fun e W' ⟨he, bel⟩ => ?_
  subst he
  exact ⟨_, rfl, _, _, _, [], _, [], hW', trodAll_mk1 (shut_bool Try.underlying4 _), (trodAll_cons_mk (Below.trod laidOut (by kernel_rfl) (of_decide_eq_true (by kernel_rfl)) k0 bel lt0) trodAll_mk0), rfl, bel.frame _, fun h => by cases h⟩

theorem over : Rows.fnBitsRow.holds Try.pinned (OpenSpec.ofChange Rows.fnBitsSpec) :=
  OpenClaim.holds_of_wide 3 Try.f3 rfl rfl rfl rfl rfl rfl rfl ⟨rfl, rfl, rfl, rfl, rfl⟩ rfl rfl rfl rfl rfl (by kernel_rfl) Try.func3 (by kernel_rfl)
    (of_decide_eq_true (by kernel_rfl)) (by unfold Func.isWrapper; first | (rw [if_pos (by decide +kernel)]; kernel_rfl) | (rw [if_neg (by decide +kernel)]; exact ⟨rfl, rfl⟩))
    (fun os started H enc _ => lifted os started H enc)

/-- ████ THE STATEMENT ████ -/
theorem proved : Rows.FnBitsSaid := over
#print axioms proved
end Go.Proofs.Ytgnfibdgoghkpaa.fnBits
