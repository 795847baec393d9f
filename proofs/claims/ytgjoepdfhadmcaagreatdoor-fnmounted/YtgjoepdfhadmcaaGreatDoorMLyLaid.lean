/- Several texts in one: LyLaid, LyLaidN. -/
import Derived.Test.YtgjoepdfhadmcaaGreatDoorMPageErr
import Derived.Test.YtgjoepdfhadmcaaGreatDoorMLaidTab
import Derived.Stop.LaidTwo
import Derived.LaidHandle
import Derived.LaidSub
import Derived.LaidMore
import Derived.OpenVars
import Derived.Lib.LaidTab
import Derived.Deep.DeepHandedRow
import Derived.Deep.DeepWitnessRowRef
import Derived.ProofKit
import Derived.OpenShut
import Derived.ShutString
section
namespace Go.Proofs.YtgjoepdfhadmcaaGreatDoor
open Go.ChangeShapes Go.WideShapes Go.ChangeAt Go.RowKit
set_option maxRecDepth 100000
theorem vnB:Tryz.prog.globalNamed "loop.example/g00223/impl.errBlank" = some 0:=by kernel_rfl
theorem vnL:Tryz.prog.globalNamed "loop.example/g00223/impl.errLost" = some 4:=by kernel_rfl
theorem vnS:Tryz.prog.globalNamed "loop.example/g00223/impl.errSize" = some 3:=by kernel_rfl
theorem vnC:Tryz.prog.globalNamed "loop.example/g00223/impl.errCheck" = some 5:=by kernel_rfl
theorem vnF:Tryz.prog.globalNamed "loop.example/g00223/impl.errFields" = some 6:=by kernel_rfl
theorem vnT:Tryz.prog.globalNamed "errors.errorType" = some 2:=by kernel_rfl
theorem vtB:(Tryz.prog.globals[0]?).map (·.type)=some 188:=by kernel_rfl
theorem vtL:(Tryz.prog.globals[4]?).map (·.type)=some 188:=by kernel_rfl
theorem vtS:(Tryz.prog.globals[3]?).map (·.type)=some 188:=by kernel_rfl
theorem vtC:(Tryz.prog.globals[5]?).map (·.type)=some 188:=by kernel_rfl
theorem vtF:(Tryz.prog.globals[6]?).map (·.type)=some 188:=by kernel_rfl
theorem es_star:("*errors.errorString" : String) = "*"++ "errors.errorString":=by decide
theorem es_row:∀u,Tryz.prog.typeName? 3 u=some "*errors.errorString"->u=312:=fun u h =>
 typeName_ptr_named (nm:= "errors.errorString") (by rw[<- es_star];kernel_rfl) (by kernel_rfl) (by decide) u (by rw[<- es_star];exact h)
theorem es_cells:Tryz.prog.cellsOf 332=1:=by kernel_rfl
theorem st_cells:Tryz.prog.cellsOf 9=1:=by kernel_rfl
theorem rt_find:(Tryz.prog.cutTypes.find? (·.1== "internal/reflectlite.rtype")).map (·.2)=some 265:=by kernel_rfl
theorem err_row:((List.range 344).filter fun t=>Tryz.prog.rowNamed t [101,114,114,111,114])=[188]:=by kernel_rfl
theorem types_size:Tryz.prog.types.size=344:=by kernel_rfl
theorem err_handle:typeHandle Tryz.prog 188=.pointer (some ⟨8,188,none⟩):=by kernel_rfl
theorem laid_skip {P:Program}{x y:String×DataW Unit}{r:List (String×DataW Unit)}{w:World}(h:laidMet P (x::y::r) w):laidMet P (x::r) w:=by
 obtain⟨ps,hv,hnd,hrows⟩:=h
 obtain⟨n,d⟩:=x
 obtain⟨m,e⟩:=y
 obtain⟨g,t,cs,fuel,p,q,h1,h2,h3,h4,hq,rfl⟩:=hv
 obtain⟨g',t',cs',fuel',p',q',_,_,_,_,hq',rfl⟩:=hq
 refine⟨MemPlace.row ⟨g,0,none⟩ cs.size++p++q',⟨g,t,cs,fuel,p,q',h1,h2,h3,h4,hq',rfl⟩,List.Nodup.sublist (List.Sublist.append (List.Sublist.refl _) (List.sublist_append_right _ _)) hnd,fun b off hm=>hrows b off ?_⟩
 rcases List.mem_append.1 hm with hm|hm
 ·exact List.mem_append_left _ hm
 ·exact List.mem_append_right _ (List.mem_append_right _ hm)
theorem var_cell {W:World}{n:String}{g:Nat}{v:Value}(hg:Tryz.prog.globalNamed n=some g)(h:W.var? Tryz.prog n=some #[v]):W.cell? ⟨g,0,none⟩=some v:=by
 simpa using World.var?_cell hg h 0
theorem same_ptr {W:World}{n:String}{a b:Addr}{t:TypeId}(h:W.var? Tryz.prog n=some #[.iface t (.pointer (some a))])(k:W.var? Tryz.prog n=some #[.iface t (.pointer (some b))]):b=a:=by
 have e:=h.symm.trans k
 simp only[Option.some.injEq,Array.mk.injEq,List.cons.injEq,Value.iface.injEq,Value.pointer.injEq,true_and,and_true] at e
 exact e.symm
abbrev laidL:List (String×DataW Unit):=[("errors.errorType",Rows.laid_errors_errorType),("loop.example/g00223/impl.dataPlaces",Rows.laid_loop_example_g00223_impl_dataPlaces),("loop.example/g00223/impl.errBlank",Rows.laid_loop_example_g00223_impl_errBlank),("loop.example/g00223/impl.errLost",Rows.laid_loop_example_g00223_impl_errLost),("loop.example/g00223/impl.errSize",Rows.laid_loop_example_g00223_impl_errSize),("loop.example/g00223/impl.errCheck",Rows.laid_loop_example_g00223_impl_errCheck),("loop.example/g00223/impl.errFields",Rows.laid_loop_example_g00223_impl_errFields)]
theorem errs_of_laid {W:World}(h:laidMetH Tryz.prog laidL W):Tab W∧∃aB aL aS aC aF,Errs W aB aL aS aC aF:=by
 have h':laidMet Tryz.prog [("loop.example/g00223/impl.dataPlaces",Rows.laid_loop_example_g00223_impl_dataPlaces),("loop.example/g00223/impl.errBlank",Rows.laid_loop_example_g00223_impl_errBlank),("loop.example/g00223/impl.errLost",Rows.laid_loop_example_g00223_impl_errLost),("loop.example/g00223/impl.errSize",Rows.laid_loop_example_g00223_impl_errSize),("loop.example/g00223/impl.errCheck",Rows.laid_loop_example_g00223_impl_errCheck),("loop.example/g00223/impl.errFields",Rows.laid_loop_example_g00223_impl_errFields)] W∧handlesMet Tryz.prog [("errors.errorType",Rows.laid_errors_errorType)] W:=h
 obtain⟨hm,hh⟩:=h'
 have hb:=laidMet.tail hm
 obtain⟨aB,aL,_,_,cB,cL,tB,tL,vB,vL,_,_,_,_,_,_,nL,kB,kL⟩:=laid_sentinels2 hb vnB vtB vnL vtL Tryz.underlying188 es_row Tryz.underlying312 Tryz.underlying332 rfl rfl Tryz.underlying9 es_cells st_cells
 obtain⟨bS,aS,_,_,_,cS,_,tS,wS,vS,_,_,_,_,_,_,nS,_,kS⟩:=laid_sentinels2 (laid_skip hb) vnB vtB vnS vtS Tryz.underlying188 es_row Tryz.underlying312 Tryz.underlying332 rfl rfl Tryz.underlying9 es_cells st_cells
 obtain⟨bC,aC,_,_,_,cC,_,tC,wC,vC,_,_,_,_,_,_,nC,_,kC⟩:=laid_sentinels2 (laid_skip (laid_skip hb)) vnB vtB vnC vtC Tryz.underlying188 es_row Tryz.underlying312 Tryz.underlying332 rfl rfl Tryz.underlying9 es_cells st_cells
 obtain⟨bF,aF,_,_,_,cF,_,tF,wF,vF,_,_,_,_,_,_,nF,_,kF⟩:=laid_sentinels2 (laid_skip (laid_skip (laid_skip hb))) vnB vtB vnF vtF Tryz.underlying188 es_row Tryz.underlying312 Tryz.underlying332 rfl rfl Tryz.underlying9 es_cells st_cells
 obtain rfl:=same_ptr vB wS
 obtain rfl:=same_ptr vB wC
 obtain rfl:=same_ptr vB wF
 obtain⟨name,u,ty,e1,e2,e3,e4,e5⟩:=hh _ (List.mem_singleton.2 rfl)
 have en:name=[101,114,114,111,114]:=(Option.some.inj e1).symm
 subst en
 obtain rfl:=Option.some.inj (rt_find.symm.trans e2)
 have hmem:ty∈(List.range 344).filter fun t=>Tryz.prog.rowNamed t [101,114,114,111,114]:=List.mem_filter.2 ⟨List.mem_range.2 (by rw[<- types_size];exact e3),e4⟩
 rw[err_row] at hmem
 obtain rfl:=List.mem_singleton.1 hmem
 rw[err_handle] at e5
 exact⟨tab_of_var (placesVar hm),_,_,_,_,_,⟨var_cell vnB vB,var_cell vnL vL,var_cell vnS vS,var_cell vnC vC,var_cell vnF vF,var_cell vnT e5,⟨_,_,kB⟩,⟨_,_,kL⟩,⟨_,_,kS⟩,⟨_,_,kC⟩,⟨_,_,kF⟩,nL.symm,nS.symm,nC.symm,nF.symm⟩⟩
theorem trodVars_cons {H:Type}{enc:TypeId×Value->H}{P:Program}{w:World}{sp:Nat->Bool}{n:String}{ns:List String}{gs:List (DataW H)}{ps:List MemPlace}(h:DataW.TrodVars enc P w sp (n::ns) gs ps):∃d ds q,gs=d::ds∧DataW.TrodVars enc P w sp ns ds q:=by
 cases gs with
 | nil=>exact h.elim
 | cons d ds =>
  obtain⟨g,t,cs,fuel,p,q,_,_,_,_,hs,_⟩:=h
  exact⟨d,ds,q,rfl,hs⟩
theorem door_met (os:Os)(args:Array Value):laidMetH Tryz.prog laidL ((World.doorLaid Tryz.prog 116 os).forCall (fun _ _=>0) ⟨#[],args,[]⟩).memory :=
 laidMetH_of_parts3 (fuel:=8) (laidMet_of_run' 8 (by kernel_rfl) (by kernel_rfl)) (by kernel_rfl) (by kernel_rfl)
end Go.Proofs.YtgjoepdfhadmcaaGreatDoor
end

section
namespace Go.Proofs.YtgjoepdfhadmcaaGreatDoor
open Go.ChangeShapes Go.WideShapes Go.ChangeAt Go.RowKit
set_option maxRecDepth 100000
theorem vnN:Tryz.prog.globalNamed "loop.example/g00223/impl.errNoRoom" = some 1:=by kernel_rfl
theorem vtN:(Tryz.prog.globals[1]?).map (·.type)=some 188:=by kernel_rfl
abbrev laidN:List (String×DataW Unit):=[("errors.errorType",Rows.laid_errors_errorType),("loop.example/g00223/impl.dataPlaces",Rows.laid_loop_example_g00223_impl_dataPlaces),("loop.example/g00223/impl.errBlank",Rows.laid_loop_example_g00223_impl_errBlank),("loop.example/g00223/impl.errLost",Rows.laid_loop_example_g00223_impl_errLost),("loop.example/g00223/impl.errSize",Rows.laid_loop_example_g00223_impl_errSize),("loop.example/g00223/impl.errCheck",Rows.laid_loop_example_g00223_impl_errCheck),("loop.example/g00223/impl.errFields",Rows.laid_loop_example_g00223_impl_errFields),("loop.example/g00223/impl.errNoRoom",Rows.laid_loop_example_g00223_impl_errNoRoom)]
theorem errs_of_laidN {W:World}(h:laidMetH Tryz.prog laidN W):Tab W∧∃aB aL aS aC aF aN,Errs W aB aL aS aC aF∧W.cell? ⟨1,0,none⟩=some (.iface 312 (.pointer (some aN))):=by
 have h':laidMet Tryz.prog [("loop.example/g00223/impl.dataPlaces",Rows.laid_loop_example_g00223_impl_dataPlaces),("loop.example/g00223/impl.errBlank",Rows.laid_loop_example_g00223_impl_errBlank),("loop.example/g00223/impl.errLost",Rows.laid_loop_example_g00223_impl_errLost),("loop.example/g00223/impl.errSize",Rows.laid_loop_example_g00223_impl_errSize),("loop.example/g00223/impl.errCheck",Rows.laid_loop_example_g00223_impl_errCheck),("loop.example/g00223/impl.errFields",Rows.laid_loop_example_g00223_impl_errFields),("loop.example/g00223/impl.errNoRoom",Rows.laid_loop_example_g00223_impl_errNoRoom)] W∧handlesMet Tryz.prog [("errors.errorType",Rows.laid_errors_errorType)] W:=h
 obtain⟨hm,hh⟩:=h'
 have hb:=laidMet.tail hm
 obtain⟨aB,aL,_,_,cB,cL,tB,tL,vB,vL,_,_,_,_,_,_,nL,kB,kL⟩:=laid_sentinels2 hb vnB vtB vnL vtL Tryz.underlying188 es_row Tryz.underlying312 Tryz.underlying332 rfl rfl Tryz.underlying9 es_cells st_cells
 obtain⟨bS,aS,_,_,_,cS,_,tS,wS,vS,_,_,_,_,_,_,nS,_,kS⟩:=laid_sentinels2 (laid_skip hb) vnB vtB vnS vtS Tryz.underlying188 es_row Tryz.underlying312 Tryz.underlying332 rfl rfl Tryz.underlying9 es_cells st_cells
 obtain⟨bC,aC,_,_,_,cC,_,tC,wC,vC,_,_,_,_,_,_,nC,_,kC⟩:=laid_sentinels2 (laid_skip (laid_skip hb)) vnB vtB vnC vtC Tryz.underlying188 es_row Tryz.underlying312 Tryz.underlying332 rfl rfl Tryz.underlying9 es_cells st_cells
 obtain⟨bF,aF,_,_,_,cF,_,tF,wF,vF,_,_,_,_,_,_,nF,_,kF⟩:=laid_sentinels2 (laid_skip (laid_skip (laid_skip hb))) vnB vtB vnF vtF Tryz.underlying188 es_row Tryz.underlying312 Tryz.underlying332 rfl rfl Tryz.underlying9 es_cells st_cells
 obtain⟨bN,aN,_,_,_,cN,_,tN,wN,vN,_,_,_,_,_,_,nN,_,kN⟩:=laid_sentinels2 (laid_skip (laid_skip (laid_skip (laid_skip hb)))) vnB vtB vnN vtN Tryz.underlying188 es_row Tryz.underlying312 Tryz.underlying332 rfl rfl Tryz.underlying9 es_cells st_cells
 obtain rfl:=same_ptr vB wS
 obtain rfl:=same_ptr vB wC
 obtain rfl:=same_ptr vB wF
 obtain⟨name,u,ty,e1,e2,e3,e4,e5⟩:=hh _ (List.mem_singleton.2 rfl)
 have en:name=[101,114,114,111,114]:=(Option.some.inj e1).symm
 subst en
 obtain rfl:=Option.some.inj (rt_find.symm.trans e2)
 have hmem:ty∈(List.range 344).filter fun t=>Tryz.prog.rowNamed t [101,114,114,111,114]:=List.mem_filter.2 ⟨List.mem_range.2 (by rw[<- types_size];exact e3),e4⟩
 rw[err_row] at hmem
 obtain rfl:=List.mem_singleton.1 hmem
 rw[err_handle] at e5
 exact⟨tab_of_var (placesVar hm),_,_,_,_,_,aN,⟨var_cell vnB vB,var_cell vnL vL,var_cell vnS vS,var_cell vnC vC,var_cell vnF vF,var_cell vnT e5,⟨_,_,kB⟩,⟨_,_,kL⟩,⟨_,_,kS⟩,⟨_,_,kC⟩,⟨_,_,kF⟩,nL.symm,nS.symm,nC.symm,nF.symm⟩,var_cell vnN vN⟩
theorem door_metN (os:Os)(args:Array Value):laidMetH Tryz.prog laidN ((World.doorLaid Tryz.prog 160 os).forCall (fun _ _=>0) ⟨#[],args,[]⟩).memory :=
 laidMetH_of_parts3 (fuel:=8) (laidMet_of_run' 8 (by kernel_rfl) (by kernel_rfl)) (by kernel_rfl) (by kernel_rfl)
end Go.Proofs.YtgjoepdfhadmcaaGreatDoor
end

