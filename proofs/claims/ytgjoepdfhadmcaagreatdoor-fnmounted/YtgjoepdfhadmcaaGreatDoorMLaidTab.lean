/- . -/
import Derived.Test.YtgjoepdfhadmcaaGreatDoorMInfo
import Derived.Test.YtgjoepdfhadmcaaGreatDoorCards
import Derived.Test.YtgjoepdfhadmcaaGreatDoorTie
import Derived.WalkKit
import Derived.ProofKit
import Derived.OpenShut
import Derived.ShutString
import Derived.Deep.DeepHandedRow
import Derived.ChangeVars
import Derived.Lib.LaidTab
namespace Go.Proofs.YtgjoepdfhadmcaaGreatDoor
open Go.ChangeShapes Go.WideShapes Go.ChangeAt Go.RowKit
set_option maxRecDepth 100000
theorem placesNamed:Tryz.prog.globalNamed "loop.example/g00223/impl.dataPlaces" = some 7:=by kernel_rfl
theorem placesType:(Tryz.prog.globals[7]?).map (·.type)=some 291:=by kernel_rfl
theorem placesCells:Tryz.prog.cellsOf 291=8:=by kernel_rfl
theorem placesCell:Tryz.prog.cellsOf 2=1:=by kernel_rfl
def placesL:List Int:=[3,5,6,7,9,10,11,12]
def placesA:Array Value:=#[.int .i64 3,.int .i64 5,.int .i64 6,.int .i64 7,.int .i64 9,.int .i64 10,.int .i64 11,.int .i64 12]
abbrev placesD {H:Type}:DataW H:=.agg [.lit (.int .i64 3),.lit (.int .i64 5),.lit (.int .i64 6),.lit (.int .i64 7),.lit (.int .i64 9),.lit (.int .i64 10),.lit (.int .i64 11),.lit (.int .i64 12)]
theorem placesRead {H:Type}(enc:TypeId×Value->H)(W:World)(sp:Nat->Bool):DataW.trod enc Tryz.prog W 0 sp true 3 291 placesA.toList=some (placesD,[]):=by kernel_rfl
theorem placesVar {W:World}{rest:List (String×DataW Unit)}(h:laidMet Tryz.prog (("loop.example/g00223/impl.dataPlaces",Rows.laid_loop_example_g00223_impl_dataPlaces)::rest) W):W.var? Tryz.prog "loop.example/g00223/impl.dataPlaces" = some placesA :=
 Lib.tabIs_of_head (k:=.i64) (zs:=placesL) placesNamed placesType Tryz.underlying291 Tryz.underlying2 placesCell placesCells h
theorem tab_of_var {W:World}(h:W.var? Tryz.prog "loop.example/g00223/impl.dataPlaces" = some placesA):Tab W:=fun k hk=>by
 have:=World.var?_cell placesNamed h k
 rw[this]
 match k,hk with
 | 0,_|1,_|2,_|3,_|4,_|5,_|6,_|7,_=>rfl
theorem var_later {P:Program}{n:String}{g:Nat}{cs:Array Value}{W W':World}(hg:P.globalNamed n=some g)(h:W.var? P n=some cs)(bel:Below W.heap.size W W'):W'.var? P n=some cs:=by
 simp only[World.var?,hg,Option.bind_some] at h ⊢
 have hlt:g<W.heap.size:=by
  rcases Nat.lt_or_ge g W.heap.size with h' | h'
  ·exact h'
  ·rw[Array.getElem?_eq_none h'] at h
   simp at h
 rw[bel.block g hlt]
 exact h
theorem placesVars {H:Type}(enc:TypeId×Value->H){W:World}(sp:Nat->Bool)(h:W.var? Tryz.prog "loop.example/g00223/impl.dataPlaces" = some placesA) :
  DataW.TrodVars enc Tryz.prog W sp ["loop.example/g00223/impl.dataPlaces"] [placesD] (MemPlace.row ⟨7,0,none⟩ placesA.size++[]) :=
 trodVars_mk1 placesNamed placesType h (placesRead enc W sp)
noncomputable def laidWorld (os:Os):World :=
 { World.holding Tryz.prog os ⟨#[],#[],[]⟩ with heap:=(World.holding Tryz.prog os ⟨#[],#[],[]⟩).heap.modify 7 fun
   | .cells _ t frozen=>.cells placesA t frozen
   | o=>o }
end Go.Proofs.YtgjoepdfhadmcaaGreatDoor
