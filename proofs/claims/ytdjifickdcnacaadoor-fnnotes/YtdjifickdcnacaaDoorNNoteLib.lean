/- . -/
import Derived.Test.YtdjifickdcnacaaDoorNNoteGuess
import Derived.Test.YtdjifickdcnacaaDoorNFmtShelf
import Derived.Test.YtdjifickdcnacaaDoorNCutLay
import Derived.Test.YtdjifickdcnacaaDoorNParseLay
import Derived.Test.YtdjifickdcnacaaDoorNBase
import Derived.Lib.SmallJoins
namespace Go.Proofs.YtdjifickdcnacaaDoor
open Go.RowKit
set_option linter.unusedVariables false
set_option maxRecDepth 20000
structure NEnv (w : World) : Prop where
 pow : Pow w
 syn : ∃ t p,w.cell? ⟨9,0,none⟩ = some (.iface t p)
 ran : ∃ t p,w.cell? ⟨10,0,none⟩ = some (.iface t p)
 mx : ∃ m,w.cell? ⟨8,0,none⟩ = some (.int .i64 m)
theorem NEnv.here {w w' : World} (h : NEnv w) (hb : Below w.heap.size w w') : NEnv w' := by
 obtain ⟨h1,⟨t,p,h2⟩,⟨t',p',h3⟩,m,h4⟩ := h
 exact ⟨h1.here hb,⟨t,p,mcell_on h2 hb⟩,⟨t',p',mcell_on h3 hb⟩,m,mcell_on h4 hb⟩
theorem cutN_any (s sep : ByteArray) (hs : s.size <= 1048576) (w : World) (hE : NEnv w) :
  Calls Tryd.prog 104 #[.string s,.string sep] w fun e w' => e = .returned (.tuple #[.string (mkB (Lib.cut s.data.toList sep.data.toList).1),.string (mkB (Lib.cut s.data.toList sep.data.toList).2.1),.bool (Lib.cut s.data.toList sep.data.toList).2.2]) ∧ Below w.heap.size w w' := by
 obtain ⟨m,hm⟩ := hE.mx
 have h : Calls Tryd.prog 104 #[.string s,.string sep] w fun e w' => e = .returned (.tuple #[.string ⟨(Lib.cut s.data.toList sep.data.toList).1.toArray⟩,.string ⟨(Lib.cut s.data.toList sep.data.toList).2.1.toArray⟩,.bool (Lib.cut s.data.toList sep.data.toList).2.2]) ∧ ∃ n,w' = w.drewN n := Any.strings_Cut Tryd.lays145 s sep m w (by omega) hm
 refine h.mono ?_
 rintro e w' ⟨rfl,n,rfl⟩
 exact ⟨rfl,Joins.below_draws _ _ _⟩
theorem parseN_any (s : ByteArray) (hs : s.size <= 1048576) (w : World) (hE : NEnv w) :
  Calls Tryd.prog 106 #[.string s,.int .i64 10,.int .i64 64] w fun e w' => (∃ er,e = .returned (.tuple #[.int .i64 (numI s.data.toList),er])) ∧ Below w.heap.size w w' := by
 obtain ⟨t1,p1,h1⟩ := hE.syn
 obtain ⟨t2,p2,h2⟩ := hE.ran
 unfold numI
 cases hp : Lib.parseIntB 64 s.data.toList with
 | ok v =>
  have h : Calls Tryd.prog 106 #[.string s,.int .i64 10,.int .i64 64] w fun e w' => e = .returned (.tuple #[.int .i64 v,.nilIface]) ∧ (w' = w ∨ ∃ t,w' = Lib.bytesWorld w 5 t) := Any.strconv_ParseInt_10_at64_ok Tryd.laysC174 s (by omega) v hp w
  refine h.mono ?_
  rintro e w' ⟨rfl,rfl | ⟨t,rfl⟩⟩
  ·exact ⟨⟨_,rfl⟩,Below.refl _ _⟩
  ·exact ⟨⟨_,rfl⟩,Lib.bytesWorld_below _ _ _⟩
 | «syntax» =>
  have h : Calls Tryd.prog 106 #[.string s,.int .i64 10,.int .i64 64] w fun e w' => ∃ N,e = .returned (.tuple #[.int .i64 (0),.iface (Tryd.laysC174_ren.t 168) (.pointer (some ⟨N,0,none⟩))]) ∧ w.heap.size <= N ∧ w'.heap[N]? = some (.cells #[.string ⟨#[80,97,114,115,101,73,110,116]⟩,.string s,.iface t1 p1] (Tryd.laysC174_ren.t 210) (0,0)) ∧ Below w.heap.size w w' := Any.strconv_ParseInt_10_at64_syntax Tryd.laysC174 s (by omega) hp (.iface t1 p1) w h1 (.inr ⟨t1,p1,rfl⟩)
  refine h.mono ?_
  rintro e w' ⟨N,rfl,_,_,hb⟩
  exact ⟨⟨_,rfl⟩,hb⟩
 | range =>
  have h : Calls Tryd.prog 106 #[.string s,.int .i64 10,.int .i64 64] w fun e w' => ∃ N,e = .returned (.tuple #[.int .i64 (Lib.intSat 64 s.data.toList),.iface (Tryd.laysC174_ren.t 168) (.pointer (some ⟨N,0,none⟩))]) ∧ w.heap.size <= N ∧ w'.heap[N]? = some (.cells #[.string ⟨#[80,97,114,115,101,73,110,116]⟩,.string s,.iface t2 p2] (Tryd.laysC174_ren.t 210) (0,0)) ∧ Below w.heap.size w w' := Any.strconv_ParseInt_10_at64_range Tryd.laysC174 s (by omega) hp (.iface t2 p2) w h2 (.inr ⟨t2,p2,rfl⟩)
  refine h.mono ?_
  rintro e w' ⟨N,rfl,_,_,hb⟩
  exact ⟨⟨_,rfl⟩,hb⟩
end Go.Proofs.YtdjifickdcnacaaDoor
