/- The walks of chapter 5's program: Woven, Unwoven. -/
import Derived.Test.YtbgjagmnpfcfaalDoorWeaveIter
import Derived.Test.YtbgjagmnpfcfaalDoorCopyBase
namespace Go.Proofs.YtbgjagmnpfcfaalDoor
open Go.RowKit Go.Shelf
set_option linter.unusedVariables false
set_option linter.unusedSimpArgs false
set_option maxRecDepth 100000
attribute [local go_sem] Oper.semAt_some

/-- What speaks of blocks below hi alone abides the loop's own doing. -/
theorem owned_own {β : Type} {B lo hi n : Nat} (h : hi ≤ B) (a : Option Addr) (f : β → Nat → Value) : OwnFrom B (fun s W => Owned lo hi W a n (f s)) := fun s X Y row hs hg hr =>
  hs.of hg.size fun k _ h2 => hg.block k (by have := hs.1; omega) (fun e => by have := (hr k e.symm).1; omega)
theorem boxed_from {β : Type} (B k : Nat) (t : TypeId) (f : β → Value) : OwnFrom B (fun s W => Boxed W k t (f s)) := Own.from (boxed_own k t f) B

/-- The byte s[k] as a cell. -/
def byteC (s : ByteArray) (k : Nat) : Value := .int .u8 ((s.data.toList.getD k 0).toNat : Int)

/-- The world in which the loop begins. -/
theorem laid5 (s : ByteArray) (D : Nat) (w W0 : World) (hW0 : W0 = (((((w.alloc (Obj.cells #[Value.string s] 9)).alloc (Obj.cells (madeCells #[Value.int IntKind.u8 0] s.size) 5)).alloc (Obj.cells #[Value.slice (some { block := w.heap.size + 1, off := 0 }) s.size s.size] 41)).alloc (Obj.cells #[Value.int IntKind.i64 (s.size : Int)] 3)).alloc (Obj.cells #[Value.int IntKind.i64 (D : Int)] 3))) :
    W0.heap.size = w.heap.size + 1 + 1 + 1 + 1 + 1 ∧ Boxed W0 w.heap.size 9 (.string s) ∧ Boxed W0 (w.heap.size + 1 + 1) 41 (.slice (some { block := w.heap.size + 1, off := 0 }) s.size s.size) ∧
    Boxed W0 (w.heap.size + 1 + 1 + 1) 3 (.int .i64 (s.size : Int)) ∧ Boxed W0 (w.heap.size + 1 + 1 + 1 + 1) 3 (.int .i64 (D : Int)) ∧
    Owned (w.heap.size + 1) (w.heap.size + 1 + 1) W0 (some ⟨w.heap.size + 1, 0, none⟩) s.size (fun _ => .int .u8 0) ∧ Below w.heap.size w W0 := by
  have hsz : W0.heap.size = w.heap.size + 1 + 1 + 1 + 1 + 1 := by rw [hW0]; simp
  have bS : Boxed W0 w.heap.size 9 (.string s) := by rw [hW0]; exact (((Boxed.new w _ _).alloc _).alloc _).alloc _ |>.alloc _
  have bT : Boxed W0 (w.heap.size + 1 + 1) 41 (.slice (some { block := w.heap.size + 1, off := 0 }) s.size s.size) := by
    have h1 := Boxed.new ((w.alloc (Obj.cells #[Value.string s] 9)).alloc (Obj.cells (madeCells #[Value.int IntKind.u8 0] s.size) 5)) 41 (.slice (some { block := w.heap.size + 1, off := 0 }) s.size s.size)
    simp only [World.size_alloc] at h1
    rw [hW0]; exact (h1.alloc _).alloc _
  have bN : Boxed W0 (w.heap.size + 1 + 1 + 1) 3 (.int .i64 (s.size : Int)) := by
    have h1 := Boxed.new (((w.alloc (Obj.cells #[Value.string s] 9)).alloc (Obj.cells (madeCells #[Value.int IntKind.u8 0] s.size) 5)).alloc (Obj.cells #[Value.slice (some { block := w.heap.size + 1, off := 0 }) s.size s.size] 41)) 3 (.int .i64 (s.size : Int))
    simp only [World.size_alloc] at h1
    rw [hW0]; exact h1.alloc _
  have bD : Boxed W0 (w.heap.size + 1 + 1 + 1 + 1) 3 (.int .i64 (D : Int)) := by
    have h1 := Boxed.new ((((w.alloc (Obj.cells #[Value.string s] 9)).alloc (Obj.cells (madeCells #[Value.int IntKind.u8 0] s.size) 5)).alloc (Obj.cells #[Value.slice (some { block := w.heap.size + 1, off := 0 }) s.size s.size] 41)).alloc (Obj.cells #[Value.int IntKind.i64 (s.size : Int)] 3)) 3 (.int .i64 (D : Int))
    simp only [World.size_alloc] at h1
    rw [hW0]; exact h1
  have hrow : Owned (w.heap.size + 1) (w.heap.size + 1 + 1) W0 (some ⟨w.heap.size + 1, 0, none⟩) s.size (fun _ => .int .u8 0) := by
    have h1 := owned_of_row ((World.rowIs_made (w.alloc (Obj.cells #[Value.string s] 9)) (.int .u8 0) s.size 5).congr (g := fun _ => .int .u8 0) (fun _ _ => by simp)) (Nat.le_refl _) (Nat.lt_succ_self _) (by simp)
    simp only [World.size_alloc] at h1
    rw [hW0]
    exact h1.later (((((Below.refl _ _).alloc (Nat.le_refl _) _).alloc (by simp) _).alloc (by simp) _)) (by simp)
  have hbel : Below w.heap.size w W0 := by
    rw [hW0]
    exact (((((Below.refl _ w).alloc (Nat.le_refl _) _).alloc (by simp) _).alloc (by simp; omega) _).alloc (by simp; omega) _).alloc (by simp; omega) _
  exact ⟨hsz, bS, bT, bN, bD, hrow, hbel⟩
/-- Between two rounds: the row holds f, the text and the slice lie in their variables, nothing that lay has turned. -/
def Between (s : ByteArray) (w : World) (f : Nat → Value) (W : World) : Prop :=
  Owned (w.heap.size + 1) (w.heap.size + 1 + 1) W (some ⟨w.heap.size + 1, 0, none⟩) s.size f ∧ Boxed W w.heap.size 9 (.string s) ∧ Boxed W (w.heap.size + 1 + 1) 41 (.slice (some { block := w.heap.size + 1, off := 0 }) s.size s.size) ∧ Below w.heap.size w W
theorem between_own {β : Type} {B : Nat} (s : ByteArray) (w : World) (f : β → Nat → Value) (h : w.heap.size + 1 + 1 ≤ B) : OwnFrom B (fun pre W => Between s w (f pre) W) :=
  OwnFrom.and (owned_own h _ f) (OwnFrom.and (boxed_from B _ _ _) (OwnFrom.and (boxed_from B _ _ _) (ownFrom_below (Nat.le_refl _) (by omega))))
theorem Between.set {s : ByteArray} {w : World} {f : Nat → Value} {W : World} (h : Between s w f W) {i : Nat} (hi : i < s.size) (v : Value) : Between s w (fun j => if j = i then v else f j) (W.setCell ⟨w.heap.size + 1, i, none⟩ v).drew := by
  obtain ⟨h1, h2, h3, h4⟩ := h
  exact ⟨(h1.set0 hi v).drew, (Below.heap_setCell _ _ _ _ (by dsimp only; omega)).trans h2, (Below.heap_setCell _ _ _ _ (by dsimp only; omega)).trans h3, (h4.setCell (p := ⟨w.heap.size + 1, i, none⟩) (by simp) v).drew⟩
theorem Between.congr {s : ByteArray} {w : World} {f g : Nat → Value} {W : World} (h : Between s w f W) (e : ∀ i, i < s.size → f i = g i) : Between s w g W := ⟨h.1.congr e, h.2⟩
theorem kept_set {W : World} {b i : Nat} {B : Nat} (h : b < B) (v : Value) : Kept B W (W.setCell ⟨b, i, none⟩ v).drew := fun k h1 _ => Below.heap_setCell _ _ _ _ (by dsimp only; omega)

/-- The cells of the row when those of pre have come. -/
def wovC (s : ByteArray) (D : Nat) (pre : List (Num s.size)) (j : Nat) : Value := if j ∈ pre.map (·.val) then byteC s (Wv.num s.size D j) else .int .u8 0
theorem wovC_step (s : ByteArray) (D : Nat) (pre : List (Num s.size)) (x : Num s.size) (j : Nat) :
    (if j = x.val then byteC s (Wv.num s.size D x.val) else wovC s D pre j) = wovC s D (pre ++ [x]) j := by
  unfold wovC
  by_cases e : j = x.val
  · subst e; simp
  · simp [e]
theorem wovC_all (s : ByteArray) (D j : Nat) (hj : j < s.size) : wovC s D (ups s.size s.size) j = cellB (Wv.wovenL s.data.toList D) j := by
  unfold wovC cellB byteC
  rw [ups_val (Nat.le_refl _), if_pos (List.mem_range.2 hj), Wv.wovenL_at _ _ _ (by simpa using hj)]
  simp

/-- The cells of the row when those of pre have come. -/
def unwC (s : ByteArray) (D : Nat) (pre : List (Num s.size)) (j : Nat) : Value := if j ∈ pre.map (fun x => Wv.num s.size D x.val) then byteC s (Wv.pos s.size D j) else .int .u8 0
theorem unwC_step (s : ByteArray) (D : Nat) (hD : 1 ≤ D) (pre : List (Num s.size)) (x : Num s.size) (j : Nat) :
    (if j = Wv.num s.size D x.val then byteC s x.val else unwC s D pre j) = unwC s D (pre ++ [x]) j := by
  unfold unwC
  by_cases e : j = Wv.num s.size D x.val
  · subst e; simp [Wv.pos_num (n := s.size) (show 0 < D by omega) x.2]
  · have : (j ∈ List.map (fun x => Wv.num s.size D x.val) (pre ++ [x])) ↔ j ∈ List.map (fun x => Wv.num s.size D x.val) pre := by
      rw [List.map_append, List.mem_append]
      constructor
      · rintro (h | h)
        · exact h
        · exact absurd (by simpa using h) e
      · exact fun h => .inl h
    rw [if_neg e]
    simp only [this]
theorem unwC_all (s : ByteArray) (D : Nat) (hD : 1 ≤ D) (j : Nat) (hj : j < s.size) : unwC s D (ups s.size s.size) j = cellB (Wv.unwovenL s.data.toList D) j := by
  unfold unwC cellB byteC
  rw [if_pos, Wv.unwovenL_at _ _ _ (by simpa using hj)]
  · simp
  · obtain ⟨k, hk, e⟩ := Wv.num_onto (n := s.size) (d := D) (by omega) hj
    have hm : k ∈ (ups s.size s.size).map (·.val) := by rw [ups_val (Nat.le_refl _)]; exact List.mem_range.2 hk
    obtain ⟨x, hx, rfl⟩ := List.mem_map.1 hm
    exact List.mem_map.2 ⟨x, hx, e⟩

set_option maxHeartbeats 2000000 in
theorem implUnwoven_any (s : ByteArray) (d : Int) (w : World) (hs : s.size ≤ 1048576) :
    Calls Tryd.prog 33 #[.string s, .int .i64 d] w fun e w' => e = .returned (.string (unwoven s d)) ∧ Below w.heap.size w w' := by
  cases hb : woveOk s d
  · have HE := hide (unwoven_no hb)
    go_enter Tryd.func33, Tryd.ntmps33
    go_wp2_with fail
    refine (weaves_any _ _ _ hs).mono ?_
    rw [hb]
    rintro e w1 ⟨rfl, rfl⟩
    go_wp2_with fail
    go_ret
    exact ⟨ret_str HE.out.symm, (Below.refl _ _).alloc (Nat.le_refl _) _⟩
  · have HB0 := hide hb
    obtain ⟨D, rfl, hD1, hD16, hs6⟩ := woveOk_yes hb
    have HE := hide (unwoven_yes hb)
    clear hb
    have hmk := run_make_row' (P := Tryd.prog) 41 5 (.int .u8 0) 1 Tryd.underlying41 Tryd.infoU8d rfl .i64 .i64 s.size (by omega) (by omega)
    refine (callsIn_wide (n := 6)).1 ?_
    refine callsIn_of_wp_marks Tryd.func33 rfl trivial ?_ rfl
    simp only [Tryd.ntmps33, List.size_toArray, List.length_cons, List.length_nil, Nat.reduceAdd, Nat.reduceSub, Array.replicate_succ, Array.replicate_zero, List.push_toArray, List.append_toArray, List.nil_append, List.cons_append]
    gi_wp2_with (first
      | (refine ⟨trivial, ?_⟩; gi_at_call 42; refine (callsIn_wide.2 (weaves_any _ _ _ hs)).mono ?_; rw [HB0.out]; rintro e w1 ⟨rfl, rfl⟩)
      | (refine ⟨trivial, ?_⟩; gi_at_call 43; refine (weave_in Fence.wide _ trivial rfl s.size D _).mono ?_; rintro e w1 ⟨rfl, rfl⟩))
    obtain ⟨W0, hW0⟩ : ∃ W0, W0 = (((((w.alloc (Obj.cells #[Value.string s] 9)).alloc (Obj.cells (madeCells #[Value.int IntKind.u8 0] s.size) 5)).alloc (Obj.cells #[Value.slice (some { block := w.heap.size + 1, off := 0 }) s.size s.size] 41)).alloc (Obj.cells #[Value.int IntKind.i64 (s.size : Int)] 3)).alloc (Obj.cells #[Value.int IntKind.i64 (D : Int)] 3)) := ⟨_, rfl⟩
    rw [← hW0]
    obtain ⟨hsz, bS, bT, bN, bD, hrow, hbel⟩ := laid5 s D w W0 hW0
    clear hW0 hmk
    refine wpIn_rangeFunc_ownG rfl (by decide) (gf := 49) (lb := #[Value.pointer (some { block := w.heap.size + 1 + 1 + 1 + 1, off := 0 }), Value.pointer (some { block := w.heap.size + 1 + 1 + 1, off := 0 })]) rfl trivial (enters_of Tryd.func49 (by kernel_rfl) rfl)
      (weave_stops Fence.wide (6 - 1) trivial rfl (by decide) (w.heap.size + 1 + 1 + 1) s.size D hs6 hD1 hD16 W0 bN bD) (fun h k => h.trans k) (fun W l o o' hl _ _ _ => Kept.putObj W l o' (by omega)) (Below.refl _ _) (fun _ => rfl)
      (fun pre W => Between s w (unwC s D pre) W) (fun _ _ _ => False) (between_own s w (unwC s D) (by omega)) (fun _ _ _ _ _ hs _ _ => hs)
      ⟨hrow.congr (fun i _ => by simp [unwC]), bS, bT, hbel⟩
      (fun x => { tmps := #[Value.string s, Value.int IntKind.i64 ↑D, Value.pointer (some { block := w.heap.size, off := 0 }), undef,
          Value.string { data := #[] }, Value.pointer (some { block := w.heap.size + 1 + 1, off := 0 }), .int .i64 (x.val : Int), .int .i64 (Wv.num s.size D x.val : Int),
          Value.string s, Value.int IntKind.i64 ↑D, Value.bool true, Value.bool false, Value.string s,
          Value.int IntKind.i64 ↑s.size, Value.slice (some { block := w.heap.size + 1, off := 0 }) s.size s.size,
          Value.string s, Value.int IntKind.i64 ↑s.size, Value.int IntKind.i64 ↑D,
          Value.func (Fn.func 49) #[]
            #[Value.pointer (some { block := w.heap.size + 1 + 1 + 1 + 1, off := 0 }),
              Value.pointer (some { block := w.heap.size + 1 + 1 + 1, off := 0 })],
          .int .i64 (x.val : Int), .int .i64 (Wv.num s.size D x.val : Int), undef, undef, undef, undef, undef, undef, undef, undef], defers := [] }) ?assign ?body ?done ?stop
    case assign =>
      intro l x W K hK
      gi_wp2
      exact hK
    case body =>
      rintro l pre ⟨k, hk⟩ W hI _
      have hnl := Wv.num_lt (n := s.size) (d := D) hD1 hk
      have HS := hide (fun v => hI.set hnl v)
      obtain ⟨hO, hb1, hb2, hB⟩ := hI
      have hc1 := hb1.cell
      have hc2 := hb2.cell
      obtain ⟨hc3, hf3, _, _⟩ := hO.at0 hnl
      clear hO hb1 hb2 hB
      dsimp only
      obtain ⟨q, hq⟩ : ∃ q, q = Wv.num s.size D k := ⟨_, rfl⟩
      rw [← hq] at hnl hc3 hf3 HS ⊢
      have hx := index_at' (P := Tryd.prog) 9 Tryd.underlying9 s k hk _ rfl
      have hv : Value.int .u8 (s[k].toNat : Int) = byteC s k := by unfold byteC; rw [byte_at s k hk]
      have HR : Hid (Between s w (unwC s D (pre ++ [⟨k, hk⟩])) (W.setCell ⟨w.heap.size + 1, q, none⟩ (.int .u8 (s[k].toNat : Int))).drew) := by
        refine (HS.out _).congr fun j _ => ?_
        rw [hv, hq]
        exact unwC_step s D hD1 pre ⟨k, hk⟩ j
      clear HS hv hq
      gi_wp2
      gi_region
      all_goals gi_wp2
      all_goals exact ⟨((KeepsOthers.setCell _ _ _).trans (KeepsOthers.drew _)).from _, kept_set (by omega) _, HR.out⟩
    case done =>
      rintro D1 ys W hD rfl ⟨hO, hb1, hb2, hB⟩ hK
      have hc2 := hb2.cell
      have hB2 : Bytes (w.heap.size + 1) (w.heap.size + 1 + 1) W (some ⟨w.heap.size + 1, 0, none⟩) s.size (Wv.unwovenL s.data.toList D) :=
        ⟨by rw [Wv.unwovenL_length]; simp, (hO.congr (fun j hj => unwC_all s D hD1 j hj)).reads⟩
      have hst := string_of (P := Tryd.prog) hB2 41 9 5 s.size Tryd.underlying41 Tryd.underlying5 Tryd.underlying9
      have HBB := hide (hB.trans (belowK_b (w := w) (Nat.le_refl _) W D1 _ (.deferred none) (by omega) hK rfl rfl))
      clear hO hb1 hb2 hB hB2
      gi_wp2
      refine ⟨by simp, .inl ⟨_, _, rfl, run_takeDeferred hK, ?_⟩⟩
      refine ⟨_, results_tmp rfl _ _ _, ?_, HBB.out⟩
      rw [HE.out]; rfl
    case stop =>
      rintro D1 c pre W _ _ h _
      exact h.elim
end Go.Proofs.YtbgjagmnpfcfaalDoor
