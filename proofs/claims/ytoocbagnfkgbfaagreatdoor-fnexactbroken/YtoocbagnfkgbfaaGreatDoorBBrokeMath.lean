/- Broken, plainly: the Jobs of a plan, done one by one. Nothing of Go's text here. -/
import Derived.Test.YtoocbagnfkgbfaaGreatDoorBFtlOwnP
import Derived.Test.YtoocbagnfkgbfaaGreatDoorBChipCutS
import Derived.Test.YtoocbagnfkgbfaaGreatDoorBChipAns
namespace Go.Proofs.YtoocbagnfkgbfaaGreatDoor
open Go.RowKit
set_option linter.unusedVariables false

/-- What is worked on has gone on by Jobs that were done. -/
def RunK (z : Int) (s s' : Kp) : Prop := ∃ t, s'.js = s.js ++ t ∧ allQ z s.qs t = some s'.qs ∧ ∀ j ∈ t, j.1 = 1 ∨ (j.1 = 2 ∧ j.2.2.size = 0)
theorem RunK.refl (z : Int) (s : Kp) : RunK z s s := ⟨[], by simp, rfl, fun j h => absurd h (by simp)⟩
theorem RunK.trans {z : Int} {s s' s'' : Kp} (h : RunK z s s') (k : RunK z s' s'') : RunK z s s'' := by
  obtain ⟨t, h1, h2, h3⟩ := h
  obtain ⟨u, k1, k2, k3⟩ := k
  exact ⟨t ++ u, by rw [k1, h1, List.append_assoc], by rw [allQ_append, h2]; exact k2, fun j hj => (List.mem_append.1 hj).elim (h3 j) (k3 j)⟩
theorem runK_do {z : Int} {s s' : Kp} {j : Jb} (h : doK z s j = some s') (hj : j.1 = 1 ∨ (j.1 = 2 ∧ j.2.2.size = 0)) : RunK z s s' := by
  unfold doK at h
  split at h
  · rename_i hc
    simp only [Option.some.injEq] at h
    subst h
    exact ⟨[j], rfl, by show (if canJ z s.qs j then some (doJ z s.qs j) else none) = _; rw [if_pos hc], fun k hk => by rw [List.mem_singleton.1 hk]; exact hj⟩
  · cases h
theorem runK_put {z : Int} {s s' : Kp} {i : Nat} {tx : ByteArray} (h : putK z s i tx = some s') : RunK z s s' := by
  unfold putK at h
  cases hd : doK z s (1, s.op, tx) with
  | none => rw [hd] at h; cases h
  | some s1 =>
    rw [hd] at h
    simp only [Option.map_some, Option.some.injEq] at h
    subst h
    have h9 : RunK z s s1 := runK_do (j := (1, s.op, tx)) hd (.inl rfl)
    exact h9
theorem runK_moveI {z : Int} {v p : Nat} {s : Kp} : ∀ {k : Nat} {s' : Kp}, moveI z v p s k = some s' → RunK z s s'
  | 0, s', h => by simp only [moveI, Option.some.injEq] at h; subst h; exact RunK.refl _ _
  | k + 1, s', h => by
    unfold moveI at h
    cases hm : moveI z v p s k with
    | none => rw [hm] at h; cases h
    | some s1 =>
      rw [hm] at h
      simp only [Option.bind_some] at h
      have h1 := runK_moveI hm
      split at h
      · exact h1.trans (runK_put h)
      · simp only [Option.some.injEq] at h; subst h; exact h1
theorem runK_moveP {z : Int} {v : Nat} {s : Kp} : ∀ {k : Nat} {s' : Kp}, moveP z v s k = some s' → RunK z s s'
  | 0, s', h => by simp only [moveP, Option.some.injEq] at h; subst h; exact RunK.refl _ _
  | k + 1, s', h => by
    unfold moveP at h
    cases hm : moveP z v s k with
    | none => rw [hm] at h; cases h
    | some s1 =>
      rw [hm] at h
      simp only [Option.bind_some] at h
      exact (runK_moveP hm).trans (runK_moveI h)
theorem runK_open {z : Int} {s : Kp} {o : Int} : RunK z s (withOp s o) := ⟨[], by simp [withOp], rfl, fun j h => absurd h (by simp)⟩
theorem runK_step {z : Int} {s s' : Kp} (h : stepK z s = some s') : RunK z s s' := by
  unfold stepK at h
  split at h
  · simp only [Option.some.injEq] at h; subst h; exact runK_open
  · split at h
    · cases h
    · split at h
      · split at h
        · cases h
        · cases hm : moveK z (victimV z s.qs s.ps s.op).toNat (withOp s (((emptyK s.qs s.qs.length).getD 0 0 : Nat) : Int)) with
          | none => rw [hm] at h; cases h
          | some s1 =>
            rw [hm] at h
            simp only [Option.bind_some] at h
            exact (runK_open.trans (runK_moveP hm)).trans (runK_do h (.inr ⟨rfl, rfl⟩))
      · exact runK_do h (.inr ⟨rfl, rfl⟩)
theorem runK_room {z : Int} : ∀ {k : Nat} {s s' : Kp}, roomK z k s = some s' → RunK z s s'
  | 0, s, s', h => by
    unfold roomK at h
    split at h
    · simp only [Option.some.injEq] at h; subst h; exact RunK.refl _ _
    · cases h
  | k + 1, s, s', h => by
    unfold roomK at h
    split at h
    · simp only [Option.some.injEq] at h; subst h; exact RunK.refl _ _
    · cases hs : stepK z s with
      | none => rw [hs] at h; cases h
      | some s1 =>
        rw [hs] at h
        simp only [Option.bind_some] at h
        exact (runK_step hs).trans (runK_room h)
/-- The Jobs of a plan can all be done. -/
theorem plan_all {z : Int} {qs : List Sq} {ps : List Pl} {op st kd a : Int} {tx : ByteArray} : ∃ q, allQ z qs (jobsOf (planR z qs ps op st kd a tx)) = some q ∧ ∀ j ∈ jobsOf (planR z qs ps op st kd a tx), j.1 = 1 ∨ (j.1 = 2 ∧ j.2.2.size = 0) := by
  cases h : planR z qs ps op st kd a tx with
  | none => exact ⟨qs, rfl, fun j h => absurd h (by simp [jobsOf])⟩
  | some s =>
    obtain ⟨_, _, s1, h1, h2⟩ := planR_some h
    obtain ⟨t, e1, e2, e3⟩ := (runK_room h1).trans (runK_put h2)
    have e4 : s.js = t := by rw [e1]; rfl
    refine ⟨s.qs, ?_, ?_⟩
    · show allQ z qs s.js = _
      rw [e4]
      exact e2
    · show ∀ j ∈ s.js, _
      rw [e4]
      exact e3
theorem allQ_front {z : Int} {qs q : List Sq} {js : List Jb} (h : allQ z qs js = some q) (k : Nat) : ∃ qk, allQ z qs (js.take k) = some qk := by
  cases e : allQ z qs (js.take k) with
  | some qk => exact ⟨qk, rfl⟩
  | none =>
    rw [← List.take_append_drop k js, allQ_append, e] at h
    cases h
theorem allQ_can {z : Int} {qs q qk : List Sq} {js : List Jb} {k : Nat} (h : allQ z qs js = some q) (hk : k < js.length) (e : allQ z qs (js.take k) = some qk) : canJ z qk (jbAt js k) = true := by
  cases hc : canJ z qk (jbAt js k) with
  | true => rfl
  | false => rw [allQ_fall hk e hc] at h; cases h
theorem allQ_length {z : Int} {js : List Jb} : ∀ {qs q : List Sq}, allQ z qs js = some q → q.length = qs.length := by
  induction js with
  | nil => intro qs q e; simp only [allQ, Option.some.injEq] at e; subst e; rfl
  | cons j js ih =>
    intro qs q e
    unfold allQ at e
    split at e
    · rw [ih e]; unfold doJ; split <;> simp
    · cases e
/-- A Job of a plan is small. -/
theorem can_small {z : Int} {qs : List Sq} {j : Jb} (h : canJ z qs j = true) (hc : chipOk z qs = true) (h0 : j.1 = 1 ∨ (j.1 = 2 ∧ j.2.2.size = 0)) : jbFits j := by
  obtain ⟨i, e, hi, _, hk⟩ := canJ_parts h
  have h12 := (chipOk_parts hc).2.2.2.1
  have hw : ∀ x : Int, 0 ≤ x → x ≤ 100 → (Lit.int .i64 x).wf = true := fun x h1 h2 => WalkArith.wf_i64 (by omega)
  rcases canK_kind hk with ⟨e1, _, _, h5⟩ | ⟨e1, _⟩ | e1
  · exact ⟨hw _ (by omega) (by omega), hw _ (by omega) (by omega), by unfold maxLen; omega⟩
  · exact ⟨hw _ (by omega) (by omega), hw _ (by omega) (by omega), by rcases h0 with h9 | h9 <;> unfold maxLen <;> omega⟩
  · exact ⟨hw _ (by omega) (by omega), hw _ (by omega) (by omega), by rcases h0 with h9 | h9 <;> unfold maxLen <;> omega⟩
/-- Of how many Jobs: at least 0, at most all. -/
def doneN (jobs : Int) (L : Nat) : Nat := if jobs < 0 then 0 else if jobs < (L : Int) then jobs.toNat else L
theorem doneN_le (jobs : Int) (L : Nat) : doneN jobs L ≤ L := by
  unfold doneN
  split
  · omega
  · split <;> omega
/-- The Squares behind k of the Jobs, the next one cut. -/
def brokeQ (z : Int) (qs : List Sq) (js : List Jb) (k : Nat) (b : Int) : List Sq :=
  if k < js.length then cutJ z ((allQ z qs (js.take k)).getD []) (jbAt js k) b else (allQ z qs (js.take k)).getD []
def brokenQ (z : Int) (qs : List Sq) (ps : List Pl) (op st kd a : Int) (tx : ByteArray) (jobs b : Int) : List Sq :=
  if ftlOk z qs ps op st then brokeQ z qs (jobsOf (planR z qs ps op st kd a tx)) (doneN jobs (jobsOf (planR z qs ps op st kd a tx)).length) b else []
def brokenZ (z : Int) (qs : List Sq) (ps : List Pl) (op st : Int) : Int := if ftlOk z qs ps op st then z else 0
end Go.Proofs.YtoocbagnfkgbfaaGreatDoor
