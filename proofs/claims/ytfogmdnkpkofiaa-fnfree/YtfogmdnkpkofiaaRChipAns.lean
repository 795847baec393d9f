/- Several texts in one: ChipAns, ChipDidS. -/
import Derived.Test.YtfogmdnkpkofiaaRChipOwn2
import Derived.Test.YtfogmdnkpkofiaaRows
import Derived.Test.YtfogmdnkpkofiaaRCopyBase
import Derived.Lib.Strings
import Derived.Lib.Walk
import Derived.Lib.BufferWrite
import Derived.Lib.UnsafeStr
import Derived.Test.YtfogmdnkpkofiaaRChipGrow
section
namespace Go.Proofs.Ytfogmdnkpkofiaa
open Go.RowKit
set_option linter.unusedVariables false
set_option maxRecDepth 20000
def AnsQ (lo hi : Nat) (w : World) (a : Option Addr) (n : Nat) (qs : List Sq) : Prop := hi <= w.heap.size ∧ ((n = 0 ∧ qs = []) ∨ OwnSquares lo hi w a n qs)
section
variable {lo hi n : Nat} {w w' : World} {a : Option Addr} {qs : List Sq}
theorem AnsQ.squares (h : AnsQ lo hi w a n qs) : Squares lo hi w a n qs := by
 obtain ⟨h1,⟨rfl,rfl⟩ | h2⟩ := h
 ·exact ⟨rfl,fun _ => none,fun _ => 0,⟨h1,fun h => absurd h (by omega)⟩,fun i hi => absurd hi (by omega)⟩
 ·exact h2.squares
theorem AnsQ.later (h : AnsQ lo hi w a n qs) {B : Nat} (hb : Below B w w') (hB : hi <= B) : AnsQ lo hi w' a n qs :=
 ⟨Nat.le_trans h.1 hb.size,h.2.elim .inl (fun h => .inr (h.later hb hB))⟩
theorem AnsQ.aside (h : AnsQ lo hi w a n qs) {l r : Nat} (hb : Aside l r w w') (hB : r <= lo ∨ hi <= l) : AnsQ lo hi w' a n qs :=
 ⟨Nat.le_trans h.1 hb.size,h.2.elim .inl (fun h => .inr (h.aside hb hB))⟩
theorem AnsQ.wide (h : AnsQ lo hi w a n qs) {lo' hi' : Nat} (h1 : lo' <= lo) (h2 : hi <= hi') (h3 : hi' <= w.heap.size) : AnsQ lo' hi' w a n qs :=
 ⟨h3,h.2.elim .inl (fun h => .inr (h.wide h1 h2 h3))⟩
end
def ChipAns (w : World) (z : Int) (qs : List Sq) (v : Value) (w' : World) : Prop := ∃ a c,v = .agg #[.int .i64 z,.slice a qs.length c] ∧ AnsQ w.heap.size w'.heap.size w' a qs.length qs ∧ Below w.heap.size w w'
end Go.Proofs.Ytfogmdnkpkofiaa
end

section
namespace Go.Proofs.Ytfogmdnkpkofiaa
open Go.RowKit
set_option linter.unusedVariables false
set_option maxRecDepth 20000
def didZ (z : Int) (qs : List Sq) : Int := if chipOk z qs then z else 0
def didQ (z : Int) (qs : List Sq) (j : Jb) : List Sq := if chipOk z qs then doJ z qs j else []
def didB (z : Int) (qs : List Sq) (j : Jb) : Bool := chipOk z qs && canJ z qs j
theorem ans_of_grow {B n g c : Nat} {w w' : World} {z : Int} {qs : List Sq} {A : Nat -> Option Addr} {C : Nat -> Nat} (h : GrowSqs B w' n qs g A C) (hB : w.heap.size <= B) (hb : Below w.heap.size w w') : ChipAns w z qs (.agg #[.int .i64 z,.slice (some ⟨g,0,none⟩) n c]) w' := by
 have hl := h.len
 subst hl
 exact ⟨_,c,rfl,⟨Nat.le_refl _,.inr (h.ownS.wide hB (Nat.le_refl _) (Nat.le_refl _))⟩,hb⟩
set_option maxHeartbeats 1600000 in
theorem specDid_ans (z : Int) (a : Option Addr) (n cap : Nat) (qs : List Sq) (kd sq : Int) (tx : ByteArray) (w : World) {lo hi : Nat} (h : Squares lo hi w a n qs) (hhi : hi <= w.heap.size) (hn : n <= 1048576) (hf : ∀ x ∈ qs,sqFits x) (htx : tx.size <= maxLen) :
  Calls Try.prog 11 #[.agg #[.int .i64 z,.slice a n cap],.agg #[.int .i64 kd,.int .i64 sq,.string tx]] w fun e w' => ∃ v,e = .returned (.tuple #[v,.bool (didB z qs (kd,sq,tx))]) ∧ ChipAns w (didZ z qs) (didQ z qs (kd,sq,tx)) v w' := by
 obtain ⟨wA,hwA⟩ : ∃ wA,wA = ((w.alloc (.cells #[.int .i64 z,.slice a n cap] 26)).alloc (.cells #[.int .i64 kd,.int .i64 sq,.string tx] 30)).alloc (.cells #[.int .i64 0,.slice none 0 0] 26) := ⟨_,rfl⟩
 have hzA : wA.heap.size = w.heap.size + 1 + 1 + 1 := by rw [hwA]; simp
 have HBA : Hid (Below w.heap.size w wA) := by rw [hwA]; exact ((((Below.refl _ _).alloc (Nat.le_refl _) _).alloc (by simp) _).alloc (by simp; omega) _)
 have H0 : Hid (wA.heap[w.heap.size]? = some (.cells #[.int .i64 z,.slice a n cap] 26)) := by rw [hwA]; exact heap_old (heap_old (heap_new _ _))
 have H1 : Hid (wA.heap[w.heap.size + 1]? = some (.cells #[.int .i64 kd,.int .i64 sq,.string tx] 30)) := by rw [hwA]; exact heap_old (heap_at (by simp))
 have H2 : Hid (wA.heap[w.heap.size + 1 + 1]? = some (.cells #[.int .i64 0,.slice none 0 0] 26)) := by rw [hwA]; exact heap_at (by simp)
 have HSQ := hide (h.later HBA.out hhi)
 have HF := hide hf
 clear h hf
 obtain ⟨a0,a1⟩ := two_cells H0.out
 go_enter Try.func11,Try.ntmps11
 go_wp2_with fail
 rw [<- hwA]
 clear hwA
 refine (specChipOk_any z a n cap qs wA HSQ.out (by omega) hn HF.out).mono ?_
 rintro e w1 ⟨rfl,b1⟩
 have K0 := hide (block_on H0.out b1)
 have K1 := hide (block_on H1.out b1)
 have K2 := hide (block_on H2.out b1)
 have HS1 := hide (HSQ.out.later b1 (by omega))
 have HB1 := hide (below_here HBA.out b1)
 have hs1 := b1.size
 clear b1 H0 H1 H2 HSQ HBA a0 a1
 obtain ⟨a0,a1⟩ := two_cells K0.out
 cases hok : chipOk z qs with
 | false =>
  obtain ⟨p0,p1⟩ := two_cells K2.out
  have f0 := four_frozen K2.out 0
  have f1 := four_frozen K2.out 1
  have HRS := hide (two_set K2.out (.int .i64 0) (.slice none 0 0))
  have HAS := hide (two_aside (b := w.heap.size + 1 + 1) (Aside.refl (w.heap.size + 1 + 1) (w.heap.size + 1 + 1 + 1) w1) (Nat.le_refl _) (Nat.lt_succ_self _) (.int .i64 0) (.slice none 0 0))
  have HBF := hide (HB1.out.trans (HAS.out.below (B := w.heap.size) (by omega) (by omega)))
  go_wp2_with fail
  refine bodyPost_ret (results_ct rfl rfl (run_loadVar_row _ _ _ _ _ _ _ HRS.out Try.underlying26 rfl (by kernel_rfl))) rfl ⟨.agg #[.int .i64 0,.slice none 0 0],?_,none,0,?_,⟨Nat.le_refl _,.inl ?_⟩,HBF.out⟩
  ·unfold didB; rw [hok]; rfl
  ·unfold didZ didQ; rw [hok]; rfl
  ·unfold didQ; rw [hok]; exact ⟨rfl,rfl⟩
 | true =>
  go_wp2_with fail
  refine (l8Copy_any z a n cap qs w1 HS1.out (by omega) hok).mono ?_
  rintro e w2 ⟨g,c,A,C,rfl,hG,b2⟩
  obtain ⟨wX,hwX⟩ : ∃ wX,wX = w2.alloc (.cells #[.int .i64 z,.slice (some ⟨g,0,none⟩) n c] 26) := ⟨_,rfl⟩
  have hzX : wX.heap.size = w2.heap.size + 1 := by rw [hwX]; simp
  have HBX : Hid (Below w2.heap.size w2 wX) := by rw [hwX]; exact (Below.refl _ _).alloc (Nat.le_refl _) _
  have HX : Hid (wX.heap[w2.heap.size]? = some (.cells #[.int .i64 z,.slice (some ⟨g,0,none⟩) n c] 26)) := by rw [hwX]; exact heap_new _ _
  have K12 := hide (block_on (block_on K1.out b2) HBX.out)
  have K22 := hide (block_on (block_on K2.out b2) HBX.out)
  have HG2 := hide (hG.later HBX.out)
  have HB2 := hide (below_here (below_here HB1.out b2) HBX.out)
  have hs2 := b2.size
  have hgl : g < w2.heap.size := by have := hG.row.1; omega
  clear hG b2 HBX K0 K1 K2 HS1 HB1 a0 a1
  obtain ⟨j0,j1,j2⟩ := three_cells K12.out
  rw [hwX] at j0 j1 j2
  go_wp2_with fail
  rw [<- hwX]
  clear hwX j0 j1 j2
  refine (l8Do_any w2.heap.size c w1.heap.size z n qs g A C kd sq tx wX HG2.out (by omega) HX.out (by omega) hok htx).mono ?_
  rintro e w3 ⟨rfl,A',C',hG3,hO3⟩
  have K23 := hide (hO3.other _ _ _ _ (show w.heap.size + 1 + 1 ≠ g by have := HG2.out.atG; omega) (by decide) K22.out)
  have HX3 := hide (hO3.other _ _ _ _ (show w2.heap.size ≠ g by omega) (by decide) HX.out)
  have HG3 := hide hG3
  have HB3 := hide (HB2.out.trans (hO3.below.mono (show w.heap.size <= w1.heap.size by omega)))
  clear hG3 HG2 K12 K22 HX HB2
  have hs3 := hO3.below.size
  clear hO3
  obtain ⟨x0,x1⟩ := two_cells HX3.out
  obtain ⟨p0,p1⟩ := two_cells K23.out
  have f0 := four_frozen K23.out 0
  have f1 := four_frozen K23.out 1
  have HRS := hide (two_set K23.out (.int .i64 z) (.slice (some ⟨g,0,none⟩) n c))
  have HAS := hide (two_aside (b := w.heap.size + 1 + 1) (Aside.refl (w.heap.size + 1 + 1) (w.heap.size + 1 + 1 + 1) w3) (Nat.le_refl _) (Nat.lt_succ_self _) (.int .i64 z) (.slice (some ⟨g,0,none⟩) n c))
  have HBF := hide (HB3.out.trans (HAS.out.below (B := w.heap.size) (by omega) (by omega)))
  have HGF := hide (HG3.out.aside HAS.out (.inl (by omega)))
  go_wp2_with fail
  refine bodyPost_ret (results_ct rfl rfl (run_loadVar_row _ _ _ _ _ _ _ HRS.out Try.underlying26 rfl (by kernel_rfl))) rfl ⟨.agg #[.int .i64 z,.slice (some ⟨g,0,none⟩) n c],?_,?_⟩
  ·unfold didB; rw [hok,Bool.true_and]; rfl
  ·unfold didZ didQ
   rw [hok]
   exact ans_of_grow HGF.out (by omega) HBF.out
end Go.Proofs.Ytfogmdnkpkofiaa
end

