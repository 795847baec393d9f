/- 'copy' into a row that is known whole, as an equation for the walk, its world named. Nothing of Go's text here. -/
import Derived.Test.YtnemncmaaejajaaBase
import Derived.Laws.CopyRow
import Derived.Laws.IdiomCopy
import Derived.Lib.SliceRun
import Derived.OwnWalk
import Derived.Laws.MakeOwn
namespace Go.Proofs.Ytnemncmaaejajaa
open Go.RowKit

theorem copy_row {P : Program} (w : World) (dT sT ty elem : TypeId) (hu : P.underlying dT = some (.slice elem)) (hs : (P.info? elem).map (·.size) = some 1) (g o dLen dCap N : Nat) (t : TypeId) (f h : Nat → Value) (hrow : w.rowIs g t N f)
    (sa : Option Addr) (n sCap lo hi : Nat) (hr : Reads lo hi w sa n h) (c : Nat) (hc : c = Nat.min n dLen) (hfit : o + c ≤ N) (h1 : ∀ i, i < c → (h i).oneCell' = true) :
    ∃ w1, (Builtin.copy_ #[dT, sT] ty #[.slice (some ⟨g, o, none⟩) dLen dCap, .slice sa n sCap]).run P w = .ok (goInt c) w1 ∧
      w1.rowIs g t N (fun i => if o ≤ i ∧ i < o + c then h (i - o) else f i) ∧ Aside g (g + 1) w w1 := by
  have hcn : c ≤ n := by rw [hc]; exact Nat.min_le_left _ _
  by_cases h0 : c = 0
  · subst h0
    refine ⟨w, run_copy_none w dT sT ty elem _ _ dLen dCap n sCap hu hs hc.symm, hrow.congr (fun i _ => by rw [if_neg (by omega)]), Aside.refl _ _ _⟩
  · obtain ⟨b, off, rfl, _, _, hcell⟩ := hr.2 (by omega)
    obtain ⟨cur, hg, hN, hcur⟩ := hrow
    have hlen : ((List.range c).map h).length = c := by simp
    have hrun := run_copy_row (P := P) w dT sT ty elem g o dLen dCap ⟨b, off, none⟩ n sCap cur t ((List.range c).map h) hu hs hg (by rw [hlen]; exact hc)
      (fun j v hj => by
        have hjc : j < c := by
          rcases Nat.lt_or_ge j c with h' | h'
          · exact h'
          · rw [List.getElem?_eq_none (by rw [hlen]; exact h')] at hj; simp at hj
        have hadd : (⟨b, off, none⟩ : Addr).add j = ⟨b, off + j, none⟩ := by unfold Addr.add; split <;> simp_all
        rw [hadd, hcell j (by omega)]
        simpa [hjc] using hj)
      (by rw [hlen, hN]; exact hfit) (fun v hv => by rw [List.mem_map] at hv; obtain ⟨i, hi, rfl⟩ := hv; exact h1 i (List.mem_range.1 hi))
    rw [hlen] at hrun
    refine ⟨_, hrun, ⟨_, setRow_heap w g cur _ t (0, 0) hg, by simp [hN]; omega, fun i hi => ?_⟩, ⟨rfl, rfl, rfl, by simp, fun k _ hk => setRow_other w g k _ (by omega)⟩⟩
    have hci := hcur i hi
    have hi' : i < cur.size := by omega
    have hciL : cur.toList[i]? = some (f i) := by simpa using hci
    simp only [List.getElem?_toArray]
    by_cases e1 : i < o
    · rw [List.append_assoc, List.getElem?_append_left (by simp; omega), List.getElem?_take, if_pos e1, if_neg (by omega)]
      exact hciL
    · by_cases e2 : i < o + c
      · rw [List.append_assoc, List.getElem?_append_right (by simp; omega), List.getElem?_append_left (by simp; omega), if_pos ⟨by omega, e2⟩]
        have e3 : i - (cur.toList.take o).length = i - o := by simp; omega
        rw [e3]
        simp [show i - o < c by omega]
      · rw [List.getElem?_append_right (by simp; omega), if_neg (by omega)]
        have e3 : i - (cur.toList.take o ++ (List.range c).map h).length = i - (o + c) := by simp; omega
        rw [e3, List.getElem?_drop, show o + c + (i - (o + c)) = i by omega]
        exact hciL
theorem setCells_row (g t N : Nat) (z : Value) : ∀ (n o : Nat) (w : World) (f : Nat → Value), w.rowIs g t N f →
    (w.setCells g o (List.replicate n z)).rowIs g t N (fun i => if o ≤ i ∧ i < o + n then z else f i) ∧ Aside g (g + 1) w (w.setCells g o (List.replicate n z))
  | 0, o, w, f, h => by
    refine ⟨h.congr (fun i _ => by rw [if_neg (by omega)]), Aside.refl _ _ _⟩
  | n + 1, o, w, f, h => by
    obtain ⟨h1, h2⟩ := setCells_row g t N z n (o + 1) (w.setCell ⟨g, o, none⟩ z) _ (h.set o z)
    refine ⟨h1.congr (fun i _ => ?_), ((Aside.refl g (g + 1) w).setCell (p := ⟨g, o, none⟩) (Nat.le_refl _) (Nat.lt_succ_self _) z).trans h2⟩
    by_cases e : i = o
    · subst e
      rw [if_neg (by omega), if_pos rfl, if_pos (by omega)]
    · by_cases e2 : o + 1 ≤ i ∧ i < o + 1 + n
      · rw [if_pos e2, if_pos (by omega)]
      · rw [if_neg e2, if_neg e, if_neg (by omega)]
theorem clear_row {P : Program} (w : World) (t e ty : TypeId) (z : Value) (ht : P.underlying t = some (.slice e)) (hv : ∀ w, (zeroValue e).run P w = .ok z w) (hz : z.cells = #[z]) (h1 : z.oneCell' = true) (g T N n c : Nat) (f : Nat → Value) (hrow : w.rowIs g T N f) (hn : 0 < n) (hN : n ≤ N) :
    ∃ w1, (Builtin.clear_ #[t] ty #[.slice (some ⟨g, 0, none⟩) n c]).run P w = .ok (.tuple #[]) w1 ∧ w1.rowIs g T N (fun i => if i < n then z else f i) ∧ Aside g (g + 1) w w1 := by
  have hrun := Go.Lib.run_clear_slice (P := P) w t e ty z ht hv hz h1 g 0 n c hn (fun j hj => by rw [Nat.zero_add, hrow.cell (by omega)]; rfl) (fun j _ => hrow.frozen _)
  obtain ⟨h2, h3⟩ := setCells_row g T N z n 0 w f hrow
  exact ⟨_, hrun, h2.congr (fun i _ => by simp), h3⟩
/-- 'append' where there is room: the row is known whole, the value stays at its head. -/
theorem append_row {P : Program} (w : World) (t ty e : TypeId) (hu : P.underlying t = some (.slice e)) (hs : (P.info? e).map (·.size) = some 1) (g n cap : Nat) (f h : Nat → Value) (hrow : w.rowIs g e cap f)
    (sa : Option Addr) (m c lo hi : Nat) (hr : Reads lo hi w sa m h) (hm : 0 < m) (hroom : n + m ≤ cap) (h1 : ∀ i, i < m → (h i).oneCell' = true) :
    ∃ w1, (Builtin.append_ #[t, t] ty #[.slice (some ⟨g, 0, none⟩) n cap, .slice sa m c]).run P w = .ok (.slice (some ⟨g, 0, none⟩) (n + m) cap) w1 ∧
      w1.rowIs g e cap (fun i => if n ≤ i ∧ i < n + m then h (i - n) else f i) ∧ Aside g (g + 1) w w1 := by
  obtain ⟨b, off, rfl, _, _, hcell⟩ := hr.2 hm
  obtain ⟨cur, hg, hN, hcur⟩ := hrow
  obtain ⟨i0, hi0, hsz⟩ := Option.map_eq_some_iff.1 hs
  have hlen : ((List.range m).map h).length = m := by simp
  have hrun := run_append_room (P := P) w t ty e i0 hu hi0 g n cap cur hg ⟨b, off, none⟩ m c ((List.range m).map h) (by rw [hlen, hsz, Nat.mul_one])
    (fun j v hj => by
      have hjc : j < m := by
        rcases Nat.lt_or_ge j m with h' | h'
        · exact h'
        · rw [List.getElem?_eq_none (by rw [hlen]; exact h')] at hj; simp at hj
      have hadd : (⟨b, off, none⟩ : Addr).add j = ⟨b, off + j, none⟩ := by unfold Addr.add; split <;> simp_all
      rw [hadd, hcell j (by omega)]
      simpa [hjc] using hj)
    (fun v hv => by rw [List.mem_map] at hv; obtain ⟨i, hi, rfl⟩ := hv; exact h1 i (List.mem_range.1 hi)) hroom (by rw [hlen, hsz, Nat.mul_one, hN]; exact hroom)
  rw [hlen, hsz, Nat.mul_one] at hrun
  refine ⟨_, hrun, ⟨_, setRow_heap w g cur _ e (0, 0) hg, by simp [hN]; omega, fun i hi => ?_⟩, ⟨rfl, rfl, rfl, by simp, fun k _ hk => setRow_other w g k _ (by omega)⟩⟩
  have hci := hcur i hi
  have hi' : i < cur.size := by omega
  have hciL : cur.toList[i]? = some (f i) := by simpa using hci
  simp only [List.getElem?_toArray]
  by_cases e1 : i < n
  · rw [List.append_assoc, List.getElem?_append_left (by simp; omega), List.getElem?_take, if_pos e1, if_neg (by omega)]
    exact hciL
  · by_cases e2 : i < n + m
    · rw [List.append_assoc, List.getElem?_append_right (by simp; omega), List.getElem?_append_left (by simp; omega), if_pos ⟨by omega, e2⟩]
      have e3 : i - (cur.toList.take n).length = i - n := by simp; omega
      rw [e3]
      simp [show i - n < m by omega]
    · rw [List.getElem?_append_right (by simp; omega), if_neg (by omega)]
      have e3 : i - (cur.toList.take n ++ (List.range m).map h).length = i - (n + m) := by simp; omega
      rw [e3, List.getElem?_drop, show n + m + (i - (n + m)) = i by omega]
      exact hciL
theorem wpList_append_eq {P : Program} {w : World} {ops : Array Oper} {rest : List Oper} {o : Oper} {a : Act} {Q : Exit → Act → World → Prop} (hgd : o.guard = none) (s x : Operand) (t : TypeId)
    (ho : o.op = .call { callee := .builtin .append, args := #[s, x], argTypes := #[t, t] }) (v1 v2 v' : Value) (w' : World) (hs : a.eval s = v1) (hx : a.eval x = v2)
    (hrun : (Builtin.append_ #[t, t] o.type #[v1, v2]).run P w = .ok v' w') (h : wpList P ops Q rest (a.put o.dst v') w') : wpList P ops Q (o :: rest) a w := by
  refine wpList_plain hgd fun K hK => ?_
  unfold Oper.wp
  simp [execOp, ho, resolve, invoke, builtin, hs, hx, hrun, Result.andThen]
  exact hK _ _ h
/-- 'make' whose sizes are spelled as the walk spells them. -/
theorem make_row {P : Program} (t e : TypeId) (z : Value) (bytes : Nat) (ht : P.underlying t = some (.slice e)) (hinfo : (P.info? e).map (fun i => (i.zero, i.size, i.bytes)) = some (some z, 1, bytes)) (hz1 : z.cells = #[z])
    (l c : Int) (L C : Nat) (hl : l = L) (hc : c = C) (hLC : L ≤ C) (hb : bytes * C ≤ 281474976710656) (h63 : C ≤ 9223372036854775807) (w : World) :
    (Instr.makeSlice t (.int .i64 l) (.int .i64 c)).run P w = .ok (.slice (some ⟨w.heap.size, 0, none⟩) L C) (w.alloc (.cells (madeCells #[z] C) e)) := by
  obtain ⟨i, hi, hzz⟩ := Option.map_eq_some_iff.1 hinfo
  simp only [Prod.mk.injEq] at hzz
  obtain ⟨hz, hs, hb'⟩ := hzz
  subst hl hc
  have h := run_make (P := P) w t e i z ht hi hz .i64 .i64 (L : Int) (C : Int) (by omega) (by omega) (by rw [hb', ← Int.natCast_mul]; generalize bytes * C = q at hb ⊢; omega) (by omega)
  rw [h, hs, hz1]
  simp
end Go.Proofs.Ytnemncmaaejajaa
