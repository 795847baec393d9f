/- Words on memory for texts and slices of bytes. Nothing of Go's text here. -/
import Derived.Test.YtnemncmaaejajaaBase
import Derived.Laws.IdiomStrings
import Derived.Laws.BytesArg
import Derived.Laws.BitsAllLaws
namespace Go.Proofs.Ytnemncmaaejajaa
open Go.RowKit

/-- A list of bytes as cells. -/
def cellB (l : List UInt8) (i : Nat) : Value := .int .u8 ((l.getD i 0).toNat : Int)
def Bytes (lo hi : Nat) (w : World) (a : Option Addr) (n : Nat) (l : List UInt8) : Prop := l.length = n ∧ Reads lo hi w a n (cellB l)
def OwnBytes (lo hi : Nat) (w : World) (a : Option Addr) (n : Nat) (l : List UInt8) : Prop := l.length = n ∧ Owned lo hi w a n (cellB l)

/-- What '[]byte(s)' makes. -/
theorem bytes_made (w : World) (s : ByteArray) (e cap : Nat) (m : Nat) : Owned w.heap.size (w.heap.size + 1) (w.alloc (.cells (bytesRow s cap) e ((bytesRow s cap).size, m))) (some ⟨w.heap.size, 0, none⟩) s.size (cellB s.data.toList) := by
  have hb : (w.alloc (.cells (bytesRow s cap) e ((bytesRow s cap).size, m))).heap[w.heap.size]? = some (.cells (bytesRow s cap) e ((bytesRow s cap).size, m)) := by
    show (w.heap.push _)[w.heap.size]? = _
    simp
  have hsz : (w.alloc (.cells (bytesRow s cap) e ((bytesRow s cap).size, m))).heap.size = w.heap.size + 1 := by
    show (w.heap.push _).size = _
    simp
  have hrow : s.size ≤ (bytesRow s cap).size := by simp [bytesRow]
  refine ⟨by rw [hsz]; exact Nat.le_refl _, fun _ => ⟨w.heap.size, 0, rfl, Nat.le_refl _, Nat.lt_succ_self _, fun i hi => ⟨?_, ?_⟩⟩⟩
  · simp only [World.cell?, hb, Nat.zero_add]
    simp [bytesRow, cellB, Array.getElem?_append, hi, List.getD_eq_getElem?_getD]
  · simp only [World.frozen?, hb, Nat.zero_add]
    simp
    omega

/-- What 'string(b)' reads. -/
theorem string_of {P : Program} {lo hi : Nat} {w : World} {a : Option Addr} {n : Nat} {l : List UInt8} (h : Bytes lo hi w a n l) (src dst e : TypeId) (cap : Nat)
    (hs : P.underlying src = some (.slice e)) (he : P.underlying e = some (.int .u8)) (hd : P.underlying dst = some .string) :
    (convert src dst (.slice a n cap)).run P w = .ok (.string ⟨l.toArray⟩) w := by
  obtain ⟨hl, _, hx⟩ := h
  by_cases hn : 0 < n
  · obtain ⟨b, off, rfl, _, _, hc⟩ := hx hn
    rw [run_convert_bytes_arg w src e hs he b off n cap (l.map fun b => (b.toNat : Int)) (by simpa using hl) (fun i hi => by rw [hc i hi, cellB]; simp [List.getD_eq_getElem?_getD, hl, hi]) dst hd]
    simp [strOfNums, Function.comp_def]
  · have hn0 : n = 0 := by omega
    subst hn0
    have hl0 : l = [] := List.eq_nil_of_length_eq_zero hl
    subst hl0
    cases a with
    | none => rw [run_convert_bytes_nil w src e hs he 0 cap dst hd]; rfl
    | some a =>
      rw [run_convert_bytes_string w src dst e _ 0 cap hs he hd, run_bytesToString w a 0 cap [] (by simpa using run_loadCells_list (P := P) w a [] (fun j v hj => by simp at hj))]
      rfl

theorem cells_step {f g : Nat → Value} {v : Value} (k j : Nat) (hv : v = f k) : (if j = k then v else if j < k then f j else g j) = (if j < k + 1 then f j else g j) := by
  by_cases e : j = k
  · subst e; simp [hv]
  · rw [if_neg e]
    by_cases h : j < k
    · rw [if_pos h, if_pos (by omega)]
    · rw [if_neg h, if_neg (by omega)]

theorem ret_u8 {a b : Int} (h : a = b) : Ending.returned (.int .u8 a) = .returned (.int .u8 b) := by rw [h]
theorem ret_str {a b : ByteArray} (h : a = b) : Ending.returned (.string a) = .returned (.string b) := by rw [h]
theorem byte_at (s : ByteArray) (k : Nat) (h : k < s.size) : s.data.toList.getD k 0 = s[k] := by
  have h1 : k < s.data.size := h
  have h2 : s.data[k]? = some s.data[k] := Array.getElem?_eq_getElem h1
  simp [List.getD_eq_getElem?_getD, h2]
  rfl
/-- A text out of a list of bytes. -/
def str (l : List UInt8) : ByteArray := ⟨l.toArray⟩
def xorL (a b : List UInt8) : List UInt8 := List.zipWith (· ^^^ ·) a b
def xored (a b : ByteArray) : ByteArray := if a.size = b.size then str (xorL a.data.toList b.data.toList) else ByteArray.empty
theorem xorL_length (a b : List UInt8) (h : a.length = b.length) : (xorL a b).length = a.length := by simp [xorL, h]
theorem xorL_at (a b : List UInt8) (k : Nat) (ha : k < a.length) (hb : k < b.length) : (xorL a b).getD k 0 = a.getD k 0 ^^^ b.getD k 0 := by
  simp [xorL, List.getD_eq_getElem?_getD, List.getElem?_zipWith, ha, hb]
theorem xor_byte (x y : UInt8) : bits .xor .u8 (x.toNat : Int) (y.toNat : Int) = ((x ^^^ y).toNat : Int) := by
  rw [u8_xor_nat _ _ (UInt8.toNat_lt x) (UInt8.toNat_lt y), UInt8.toNat_xor]
theorem xor_cell (a b : ByteArray) (k : Nat) (ha : k < a.size) (hb : k < b.size) : Value.int .u8 (bits .xor .u8 (a[k].toNat : Int) (b[k].toNat : Int)) = cellB (xorL a.data.toList b.data.toList) k := by
  rw [xor_byte, cellB, xorL_at _ _ _ (by simpa using ha) (by simpa using hb), byte_at a k ha, byte_at b k hb]
end Go.Proofs.Ytnemncmaaejajaa
