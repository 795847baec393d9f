/- Chapter 17, plainly: a Witness, who serves, who is in sync. -/
import Derived.Test.YtdaemaefkikheaaBase
namespace Go.Proofs.Ytdaemaefkikheaa
open Go.RowKit
set_option linter.unusedVariables false

/-- A Witness: its Epoch, its Holder, the flags. -/
structure Wn where
  e : Int
  h : Int
  s : List Bool
def zeroW : Wn := ⟨0, 0, []⟩
def newW : Wn := ⟨0, -1, [true, true]⟩
def witOk (x : Wn) : Bool := inB x.e 0 1000000 && (inB x.h (-1) 1 && (decide (x.s.length = 2) && ((decide (x.h < 0) == decide (x.e = 0)) && (if 0 ≤ x.h then x.s.getD x.h.toNat false else (x.s.getD 0 false || x.s.getD 1 false)))))
def mayGrant (x : Wn) (who : Int) : Bool := inB who 0 1 && (x.s.getD who.toNat false && !decide (x.e = 1000000))
def grantF (x : Wn) (who : Int) : Wn := if witOk x then (if mayGrant x who then ⟨x.e + 1, who, x.s⟩ else x) else zeroW
def grantB (x : Wn) (who : Int) : Bool := witOk x && mayGrant x who
def servW (x : Wn) (who ep : Int) : Bool := inB who 0 1 && (decide (x.h = who) && decide (x.e = ep))
def servesB (x : Wn) (who ep : Int) : Bool := witOk x && servW x who ep
def setF (x : Wn) (who ep : Int) (b : Bool) : Wn := if witOk x then (if servW x who ep then ⟨x.e, x.h, x.s.set (1 - who).toNat b⟩ else x) else zeroW
def soleI (x : Wn) : Int := if witOk x && !(x.s.getD 0 false && x.s.getD 1 false) then (if x.s.getD 0 false then 0 else 1) else -1
theorem witOk_e {x : Wn} (h : inB x.e 0 1000000 = false) : witOk x = false := by unfold witOk; rw [h]; rfl
theorem witOk_h {x : Wn} (h : inB x.h (-1) 1 = false) : witOk x = false := by unfold witOk; rw [h]; simp
theorem witOk_s {x : Wn} (h : ¬ x.s.length = 2) : witOk x = false := by unfold witOk; simp [h]
theorem witOk_len {x : Wn} (h : witOk x = true) : x.s.length = 2 := by
  unfold witOk at h
  simp only [Bool.and_eq_true, decide_eq_true_eq] at h
  exact h.2.2.1
theorem two_flags {s : List Bool} (h : s.length = 2) : ∃ b0 b1, s = [b0, b1] := by
  match s, h with
  | [b0, b1], _ => exact ⟨b0, b1, rfl⟩
theorem witOk_rest {x : Wn} {b0 b1 : Bool} (he : inB x.e 0 1000000 = true) (hh : inB x.h (-1) 1 = true) (hs : x.s = [b0, b1]) : witOk x = ((decide (x.h < 0) == decide (x.e = 0)) && (if 0 ≤ x.h then (if x.h = 0 then b0 else b1) else (b0 || b1))) := by
  have h2 : -1 ≤ x.h ∧ x.h ≤ 1 := by simpa [inB] using hh
  unfold witOk
  rw [he, hh, hs]
  by_cases h0 : 0 ≤ x.h
  · by_cases h1 : x.h = 0
    · simp [h1]
    · have h3 : x.h = 1 := by omega
      simp [h3]
  · simp [h0]
end Go.Proofs.Ytdaemaefkikheaa
