/- The walk that bends a text: what comes out is some text, at most two signs longer. -/
import Derived.Test.YtbgjagmnpfcfaakDrawText
import Derived.Deep.RegionHeld3
import Derived.Deep.AppendLies
namespace Go.Proofs.Ytbgjagmnpfcfaak
open Go.RowKit
set_option linter.unusedVariables false
set_option maxRecDepth 20000

/-- 'append' at a step of a region that draws its order, onto a slice of one's own; nothing may be appended, too. -/
theorem step_append_own {P : Program} (w : World) {ops : Array Oper} {o : Oper} {a : Act} {K : Act → World → Prop} {Q : Exit → Act → World → Prop} {E : Prop} (hgd : o.guard = none) (s x : Operand) (t : TypeId)
    (ho : o.op = .call { callee := .builtin .append, args := #[s, x], argTypes := #[t, t] })
    (base : Nat) (e : TypeId) (i : TypeInfo) (z : Value) (size bytes : Nat) (ht : P.underlying t = some (.slice e)) (hi : P.info? e = some i) (hz : i.zero = some z)
    (hsize : i.size = size) (hby : i.bytes = bytes) (hzs : z.cells.size = size) (hsz : 0 < size)
    (v : Value) (n : Nat) (xs : List Value) (hs : a.eval s = v) (hown : w.ownsRow base e size v n xs)
    (ad : Addr) (m c : Nat) (news : List Value) (hx : a.eval x = .slice (some ad) m c) (hl : news.length = m * size) (hnews : ∀ j u, news[j]? = some u → w.cell? (ad.add j) = some u) (h1 : ∀ u ∈ news, u.oneCell' = true)
    (h63 : n + m ≤ maxLen) (hbytes : (n + m) * bytes ≤ 140737488355328) (hbase : base ≤ w.heap.size)
    (h : ∀ v' w', w'.ownsRow base e size v' (n + m) (xs ++ news) → w.grownBy w' v.ownBlock → K (a.put o.dst v') w') :
    if Region.wanted o (yielded ops a.tmps) = true then Oper.wp P o a w K Q else E := by
  have hw : Region.wanted o (yielded ops a.tmps) = true := by simp [Region.wanted, hgd]
  rw [if_pos hw]
  obtain ⟨v', w', hr, h2, h3, _, h5⟩ := run_append_own_at (P := P) w base t o.type e i z size bytes ht hi hz hsize hby hzs hsz v n xs hown ad m c news hl hnews h1 h63 hbytes hbase
  unfold Oper.wp execOp
  simp only [ho, resolve, invoke, builtin, Sem.run_bind, Sem.run_pure, Result.andThen_ok, List.map_toArray, List.map_cons, List.map_nil, hs, hx, hr]
  exact h v' w' h2 h3

theorem Owned.news {lo hi : Nat} {w : World} {b off n : Nat} {l : List UInt8} (h : Owned lo hi w (some ⟨b, off, none⟩) n (cellB l)) (hl : l.length = n) (k m : Nat) (hm : k + m ≤ n) :
    ∀ j u, (((l.drop k).take m).map byteV)[j]? = some u → w.cell? ((⟨b, off + k, none⟩ : Addr).add j) = some u := by
  intro j u hu
  rw [List.getElem?_map, List.getElem?_take] at hu
  by_cases hj : j < m
  · rw [if_pos hj, List.getElem?_drop] at hu
    obtain ⟨b', off', e, _, _, hc⟩ := h.2 (by omega)
    simp only [Option.some.injEq, Addr.mk.injEq, and_true] at e
    obtain ⟨rfl, rfl⟩ := e
    have hcell := (hc (k + j) (by omega)).1
    have hadd : (⟨b, off + k, none⟩ : Addr).add j = ⟨b, off + (k + j), none⟩ := by unfold Addr.add; simp [Nat.add_assoc]
    rw [hadd, hcell]
    rw [List.getElem?_eq_getElem (by omega)] at hu
    simp only [Option.map_some, Option.some.injEq] at hu
    rw [← hu, cellB, List.getD_eq_getElem?_getD, List.getElem?_eq_getElem (by omega)]
    rfl
  · rw [if_neg hj] at hu; simp at hu
/-- The rest of a row from place k on: its address as a letter. -/
theorem slice_rest {P : Program} (t e : TypeId) (ht : P.underlying t = some (.slice e)) (hs : ∀ w, (sizeOf e).run P w = .ok 1 w) (b off n cap k : Nat) (hk : k ≤ n) (hn : n ≤ cap) :
    ∃ ad : Addr, (ad = ⟨b, off + k, none⟩ ∨ n - k = 0) ∧ ∀ w, (Instr.sliceAt t (.slice (some ⟨b, off, none⟩) n cap) (some (.int .i64 (k : Int))) none none).run P w = .ok (.slice (some ad) (n - k) (cap - k)) w := by
  have he : P.elem t = e := by simp [Program.elem, ht]
  have ht' : P.underlying t = some (.slice (P.elem t)) := by rw [he]; exact ht
  by_cases h : cap = k
  · refine ⟨⟨b, off, none⟩, .inr (by omega), fun w => ?_⟩
    rw [run_sliceAt_slice w t _ _ _ _ ht', run_slice_l (P := P) w t _ n cap ht' .i64 (k : Int) (by omega) (by omega), he, hs]
    simp [sliced, h, Result.andThen]
  · refine ⟨⟨b, off + k, none⟩, .inl rfl, fun w => ?_⟩
    rw [run_sliceAt_slice w t _ _ _ _ ht', run_slice_l (P := P) w t _ n cap ht' .i64 (k : Int) (by omega) (by omega), he, hs]
    simp [sliced, h, Result.andThen, Addr.add]
theorem slice_first {P : Program} (t e : TypeId) (ht : P.underlying t = some (.slice e)) (hs : ∀ w, (sizeOf e).run P w = .ok 1 w) (b off n cap k : Nat) (hk : k ≤ n) (hn : n ≤ cap) :
    ∀ w, (Instr.sliceAt t (.slice (some ⟨b, off, none⟩) n cap) none (some (.int .i64 (k : Int))) none).run P w = .ok (.slice (some ⟨b, off, none⟩) k cap) w := by
  intro w
  have he : P.elem t = e := by simp [Program.elem, ht]
  have ht' : P.underlying t = some (.slice (P.elem t)) := by rw [he]; exact ht
  rw [run_sliceAt_slice w t _ _ _ _ ht', run_slice_h (P := P) w t _ n cap ht' .i64 (k : Int) (by omega) (by omega), he, hs]
  simp [sliced, Result.andThen, Addr.add]
theorem Owned.newsAt {lo hi : Nat} {w : World} {b off n : Nat} {l : List UInt8} (h : Owned lo hi w (some ⟨b, off, none⟩) n (cellB l)) (hl : l.length = n) (k : Nat) (hk : k ≤ n) {ad : Addr} (had : ad = ⟨b, off + k, none⟩ ∨ n - k = 0) :
    ∀ j u, (((l.drop k).take (n - k)).map byteV)[j]? = some u → w.cell? (ad.add j) = some u := by
  rcases had with rfl | h0
  · exact h.news hl k (n - k) (by omega)
  · intro j u hu
    rw [h0] at hu
    simp at hu
theorem news_length (l : List UInt8) (k m n : Nat) (hl : l.length = n) (hm : k + m ≤ n) : (((l.drop k).take m).map byteV).length = m * 1 := by simp; omega
theorem news_one (l : List UInt8) : ∀ u ∈ l.map byteV, u.oneCell' = true := by
  intro u hu
  obtain ⟨c, _, rfl⟩ := List.mem_map.1 hu
  rfl

end Go.Proofs.Ytbgjagmnpfcfaak
