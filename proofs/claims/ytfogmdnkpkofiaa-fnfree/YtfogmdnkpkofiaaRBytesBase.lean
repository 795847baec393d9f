/- . -/
import Derived.Test.YtfogmdnkpkofiaaRBase
import Derived.Laws.IdiomStrings
import Derived.Laws.BytesArg
import Derived.Laws.BitsAllLaws
namespace Go.Proofs.Ytfogmdnkpkofiaa
open Go.RowKit
def cellB (l : List UInt8) (i : Nat) : Value := .int .u8 ((l.getD i 0).toNat : Int)
def Bytes (lo hi : Nat) (w : World) (a : Option Addr) (n : Nat) (l : List UInt8) : Prop := l.length = n ∧ Reads lo hi w a n (cellB l)
def OwnBytes (lo hi : Nat) (w : World) (a : Option Addr) (n : Nat) (l : List UInt8) : Prop := l.length = n ∧ Owned lo hi w a n (cellB l)
theorem string_of {P : Program} {lo hi : Nat} {w : World} {a : Option Addr} {n : Nat} {l : List UInt8} (h : Bytes lo hi w a n l) (src dst e : TypeId) (cap : Nat)
  (hs : P.underlying src = some (.slice e)) (he : P.underlying e = some (.int .u8)) (hd : P.underlying dst = some .string) :
  (convert src dst (.slice a n cap)).run P w = .ok (.string ⟨l.toArray⟩) w := by
 obtain ⟨hl,_,hx⟩ := h
 by_cases hn : 0 < n
 ·obtain ⟨b,off,rfl,_,_,hc⟩ := hx hn
  rw [run_convert_bytes_arg w src e hs he b off n cap (l.map fun b => (b.toNat : Int)) (by simpa using hl) (fun i hi => by rw [hc i hi,cellB]; simp [List.getD_eq_getElem?_getD,hl,hi]) dst hd]
  simp [strOfNums,Function.comp_def]
 ·have hn0 : n = 0 := by omega
  subst hn0
  have hl0 : l = [] := List.eq_nil_of_length_eq_zero hl
  subst hl0
  cases a with
  | none => rw [run_convert_bytes_nil w src e hs he 0 cap dst hd]; rfl
  | some a =>
   rw [run_convert_bytes_string w src dst e _ 0 cap hs he hd,run_bytesToString w a 0 cap [] (by simpa using run_loadCells_list (P := P) w a [] (fun j v hj => by simp at hj))]
   rfl
theorem ret_str {a b : ByteArray} (h : a = b) : Ending.returned (.string a) = .returned (.string b) := by rw [h]
theorem byte_at (s : ByteArray) (k : Nat) (h : k < s.size) : s.data.toList.getD k 0 = s[k] := by
 have h1 : k < s.data.size := h
 have h2 : s.data[k]? = some s.data[k] := Array.getElem?_eq_getElem h1
 simp [List.getD_eq_getElem?_getD,h2]
 rfl
def str (l : List UInt8) : ByteArray := ⟨l.toArray⟩
end Go.Proofs.Ytfogmdnkpkofiaa
