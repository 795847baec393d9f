/- '==' on two arrays of int64, told by their lists. Nothing of Go's text here. -/
import Derived.Test.YtgnfibdgoghkpaaBase
import Derived.Laws.StructEq
import Derived.ChangeKeysEq
namespace Go.Proofs.Ytgnfibdgoghkpaa
open Go.RowKit

theorem run_equalIn_arr {P : Program} (d : Nat) (t e n : Nat) (hu : P.underlying t = some (.array n e)) (hs : ∀ w, (sizeOf e).run P w = .ok 1 w) (he : P.underlying e = some (.int .i64)) (hk : P.plainKey e = true) (l m : List Int) (hl : l.length = n) (hm : m.length = n) (w : World) :
    (Op.equalIn (d + 1 + 1) t (.agg (l.map (Value.int .i64)).toArray) (.agg (m.map (Value.int .i64)).toArray)).run P w = .ok (decide (l = m)) w := by
  rw [Op.equalIn]
  simp only [Sem.run_bind, run_underlying hu, hs, Result.andThen_ok, Nat.mul_one]
  rw [Std.Legacy.Range.forIn_eq_forIn_range']
  have key : ∀ k i, i + k = n → (forIn (List.range' i k 1) ((none, ()) : Option Bool × Unit) fun i __s => do
            let a ← part e (List.map (Value.int IntKind.i64) l).toArray i
            let b ← part e (List.map (Value.int IntKind.i64) m).toArray i
            let c ← Op.equalIn (d + 1) e a b
            if (!c) = true then pure (ForInStep.done (some false, ())) else pure (ForInStep.yield (none, ()))).run P w = .ok (if l.drop i = m.drop i then none else some false, ()) w := by
    intro k
    induction k with
    | zero => intro i hi; rw [List.drop_of_length_le (by omega), List.drop_of_length_le (by omega)]; simp
    | succ k ih =>
      intro i hi
      have h1 : i < l.length := by omega
      have h2 : i < m.length := by omega
      rw [List.range'_succ, List.forIn_cons]
      simp only [Sem.run_bind]
      rw [run_part_plain w hk (xs := (List.map (Value.int IntKind.i64) l).toArray) (off := i) (v := .int .i64 l[i]) (by simp [h1])]
      simp only [Result.andThen_ok]
      rw [run_part_plain w hk (xs := (List.map (Value.int IntKind.i64) m).toArray) (off := i) (v := .int .i64 m[i]) (by simp [h2])]
      simp only [Result.andThen_ok]
      rw [run_equalIn_int w d e .i64 .i64 _ _ he]
      simp only [Result.andThen_ok]
      have hd : (l.drop i = m.drop i) = (l[i] = m[i] ∧ l.drop (i + 1) = m.drop (i + 1)) := by
        rw [List.drop_eq_getElem_cons h1, List.drop_eq_getElem_cons h2, List.cons.injEq]
      simp only [hd]
      by_cases hxy : l[i] = m[i]
      · simp only [hxy, beq_self_eq_true, Bool.not_true, Bool.false_eq_true, if_false, Sem.run_pure, Result.andThen_ok]
        rw [ih (i + 1) (by omega)]
        simp only [true_and]
      · have hb : (l[i] == m[i]) = false := by simpa using hxy
        simp only [hb, Bool.not_false, if_true, Sem.run_pure, Result.andThen_ok]
        simp only [hxy, false_and, if_false]
  have := key n 0 (by omega)
  simp only [Std.Legacy.Range.size, Nat.sub_zero, Nat.add_sub_cancel, Nat.div_one]
  rw [this]
  simp only [Result.andThen_ok, List.drop_zero]
  by_cases h : l = m
  · simp [h]
  · simp [h]
end Go.Proofs.Ytgnfibdgoghkpaa
