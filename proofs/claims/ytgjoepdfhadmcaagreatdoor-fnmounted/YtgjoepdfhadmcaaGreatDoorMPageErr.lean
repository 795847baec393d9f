/- Several texts in one: PageErr, PageErrAs. -/
import Derived.Test.YtgjoepdfhadmcaaGreatDoorMInfo
import Derived.Test.YtgjoepdfhadmcaaGreatDoorMBase
import Derived.LaidEql
import Derived.Stop.Asserts
import Derived.RowKitTokens
import Derived.Laws.BitsAllLaws
section
namespace Go.Proofs.YtgjoepdfhadmcaaGreatDoor
open Go.RowKit Go.Extern.Stop Go.Stop Go.Extern
set_option linter.unusedVariables false
set_option maxRecDepth 20000
theorem isTypeOf (v:Value)(w:World):(Extern.ReflectliteType.typeOf #[.iface 312 v]).run Tryz.prog w=.ok (.iface 265 (.agg #[.pointer (some ⟨8,312,none⟩)])) w:=by kernel_rfl
theorem isComparable (w:World):((Extern.ReflectliteType.method fun t=>do Rtype.noPackHeld "Comparable" t;(fun a=>Value.bool a.comparable) <$> typeInfo t) #[.agg #[.pointer (some ⟨8,312,none⟩)]]).run Tryz.prog w=.ok (.bool true) w:=by kernel_rfl
theorem isMethodComparable (v:Value)(w:World):(Go.method 444 265 v "Comparable").run Tryz.prog w=.ok (272,v) w:=by kernel_rfl
theorem isComp:(Tryz.prog.info? 312).map (·.comparable)=some true:=by kernel_rfl
theorem isSize:(Tryz.prog.info? 332).map (·.size)=some 1:=by kernel_rfl
theorem noIsE (v:Value)(xT:TypeId)(w:World):(Instr.typeAssert (.iface 312 v) xT 267 true).run Tryz.prog w=.ok (.tuple #[.nilIface,.bool false]) w:=run_typeAssert_lacksB Tryz.underlying267 (by kernel_rfl) (by kernel_rfl) v xT w
theorem noUnwrapE (v:Value)(xT:TypeId)(w:World):(Instr.typeAssert (.iface 312 v) xT 270 true).run Tryz.prog w=.ok (.tuple #[.nilIface,.bool false]) w:=run_typeAssert_lacksB Tryz.underlying270 (by kernel_rfl) (by kernel_rfl) v xT w
theorem noUnwrapsE (v:Value)(xT:TypeId)(w:World):(Instr.typeAssert (.iface 312 v) xT 272 true).run Tryz.prog w=.ok (.tuple #[.nilIface,.bool false]) w:=run_typeAssert_lacksB Tryz.underlying272 (by kernel_rfl) (by kernel_rfl) v xT w
theorem noIsN (v:Value)(xT:TypeId)(w:World):(Instr.typeAssert (.iface 192 v) xT 267 true).run Tryz.prog w=.ok (.tuple #[.nilIface,.bool false]) w:=run_typeAssert_lacksB Tryz.underlying267 (by kernel_rfl) (by kernel_rfl) v xT w
theorem hasUnwrapN (v:Value)(xT:TypeId)(w:World):(Instr.typeAssert (.iface 192 v) xT 270 true).run Tryz.prog w=.ok (.tuple #[.iface 192 v,.bool true]) w:=run_typeAssert_hasB Tryz.underlying270 (by kernel_rfl) v xT w
theorem methodUnwrap (v:Value)(w:World):(Go.method 444 192 v "Unwrap").run Tryz.prog w=.ok (265,v) w:=by kernel_rfl
theorem is_nil (b:Addr)(w:World) :
  Calls Tryz.prog 155 #[.nilIface,.iface 312 (.pointer (some b))] w fun e w'=>e=.returned (.bool false)∧w'=w:=by
 have hn:=run_eql_iface_nil_left (P:=Tryz.prog) w 312 (.pointer (some b)) Tryz.underlying188
 go_enter Tryz.func155,Tryz.ntmps155
 go_wp2
 go_ret
 exact⟨rfl,rfl⟩
set_option maxHeartbeats 1600000 in
theorem is_blank (s:ByteArray)(b:Addr)(w:World) :
  Calls Tryz.prog 155 #[.iface 192 (.agg #[.string s,.iface 312 (.pointer (some b))]),.iface 312 (.pointer (some b))] w fun e w'=>e=.returned (.bool true)∧w'=w.alloc (.cells #[.string s,.iface 312 (.pointer (some b))] 192):=by
 obtain⟨i,hi,hcmp⟩:=Option.map_eq_some_iff.1 isComp
 obtain⟨j,hj,hjs⟩:=Option.map_eq_some_iff.1 isSize
 have h8:=@run_callFunc_extern Tryz.prog 192 _ Extern.ReflectliteType.typeOf Tryz.func192 (by kernel_rfl) (by kernel_rfl) (by kernel_rfl) (by kernel_rfl)
 have h32:=@run_callFunc_extern Tryz.prog 272 _ (Extern.ReflectliteType.method fun t=>do Rtype.noPackHeld "Comparable" t;pure (.bool (<- typeInfo t).comparable)) Tryz.func272 (by kernel_rfl) (by kernel_rfl) (by kernel_rfl) (by kernel_rfl)
 have tT:=isTypeOf
 have cT:=isComparable
 have mR:=isMethodComparable
 have nN:=noIsN
 have uN:=hasUnwrapN
 have mU:=methodUnwrap
 have heq:=run_eql_iface_ptr_same (P:=Tryz.prog) (w.alloc (.cells #[.string s,.iface 312 (.pointer (some b))] 192)) b Tryz.underlying188 Tryz.underlying312 hi hcmp hj
 have hty:=run_eql_iface_types (P:=Tryz.prog) 192 312 (.agg #[.string s,.iface 312 (.pointer (some b))]) (.pointer (some b)) Tryz.underlying188 (by decide) w
 go_enter Tryz.func155,Tryz.ntmps155
 go_wp2
 refine wp_loop_rounds 2 ?_
 rw[rounds_succ]
 go_wp2
 rw[rounds_succ]
 go_wp2
 go_ret
 exact⟨rfl,rfl⟩
set_option maxHeartbeats 1600000 in
theorem is_else (s:ByteArray)(b a:Addr)(ca cb:Array Value)(ta tb:TypeId)(w:World)(hne:a≠b)(ha:w.heap[a.block]?=some (.cells ca ta (0,0)))(hb:w.heap[b.block]?=some (.cells cb tb (0,0))) :
  Calls Tryz.prog 155 #[.iface 192 (.agg #[.string s,.iface 312 (.pointer (some a))]),.iface 312 (.pointer (some b))] w fun e w'=>e=.returned (.bool false)∧w'=w.alloc (.cells #[.string s,.iface 312 (.pointer (some a))] 192):=by
 obtain⟨i,hi,hcmp⟩:=Option.map_eq_some_iff.1 isComp
 obtain⟨j,hj,hjs⟩:=Option.map_eq_some_iff.1 isSize
 have h8:=@run_callFunc_extern Tryz.prog 192 _ Extern.ReflectliteType.typeOf Tryz.func192 (by kernel_rfl) (by kernel_rfl) (by kernel_rfl) (by kernel_rfl)
 have h32:=@run_callFunc_extern Tryz.prog 272 _ (Extern.ReflectliteType.method fun t=>do Rtype.noPackHeld "Comparable" t;pure (.bool (<- typeInfo t).comparable)) Tryz.func272 (by kernel_rfl) (by kernel_rfl) (by kernel_rfl) (by kernel_rfl)
 have tT:=isTypeOf
 have cT:=isComparable
 have mR:=isMethodComparable
 have nE:=noIsE
 have uE:=noUnwrapE
 have vE:=noUnwrapsE
 have nN:=noIsN
 have uN:=hasUnwrapN
 have mU:=methodUnwrap
 have heq:=run_eql_iface_ptr_other (P:=Tryz.prog) (w.alloc (.cells #[.string s,.iface 312 (.pointer (some a))] 192)) Tryz.underlying188 Tryz.underlying312 hi hcmp hj (by rw[hjs];decide) hne (heap_old ha) (heap_old hb)
 have hty:=run_eql_iface_types (P:=Tryz.prog) 192 312 (.agg #[.string s,.iface 312 (.pointer (some a))]) (.pointer (some b)) Tryz.underlying188 (by decide) w
 clear ha hb
 go_enter Tryz.func155,Tryz.ntmps155
 go_wp2
 refine wp_loop_rounds 2 ?_
 rw[rounds_succ]
 go_wp2
 rw[rounds_succ]
 go_wp2
 go_ret
 exact⟨rfl,rfl⟩
end Go.Proofs.YtgjoepdfhadmcaaGreatDoor
end

section
namespace Go.Proofs.YtgjoepdfhadmcaaGreatDoor
open Go.RowKit Go.Extern.Stop Go.Stop Go.Extern
set_option linter.unusedVariables false
set_option maxRecDepth 20000
theorem block_lt_of {w:World}{b o:Nat}{v:Value}(h:w.cell? ⟨b,o,none⟩=some v):b<w.heap.size:=by
 rcases Nat.lt_or_ge b w.heap.size with h' | h'
 ·exact h'
 ·simp[World.cell?,Array.getElem?_eq_none h'] at h
theorem as_nil (t:Value)(w:World) :
  Calls Tryz.prog 156 #[.nilIface,t] w fun e w'=>e=.returned (.bool false)∧w'=w:=by
 go_enter Tryz.func156,Tryz.ntmps156
 go_wp2
 go_ret
 exact⟨rfl,rfl⟩
theorem asValueOfP (t:Addr)(w:World):(ReflectliteValue.unpack (.iface 195 (.pointer (some t)))).run Tryz.prog w
  = .ok (.agg #[.pointer (some ⟨8,195,none⟩),.pointer (some ⟨w.heap.size,0,none⟩),.int .u64 150]) (w.alloc (.cells #[.pointer (some t)] 195)):=by kernel_rfl
theorem asTypeP (a:Addr)(w:World):(ReflectliteValue.methodAny (ReflectliteValue.valueError "reflectlite.Value.Type" 0) (fun t _ _ _=>ReflectliteType.toType t) #[.agg #[.pointer (some ⟨8,195,none⟩),.pointer (some a),.int .u64 150]]).run Tryz.prog w
  = .ok (.iface 265 (.agg #[.pointer (some ⟨8,195,none⟩)])) w:=by kernel_rfl
theorem asMethodKind (h:Value)(w:World):(Go.method 444 265 (.agg #[h]) "Kind").run Tryz.prog w=.ok (260,h) w:=by kernel_rfl
theorem asKindP (w:World):((ReflectliteType.abiMethod fun t=>(fun a:Nat=>Value.int IntKind.u8 (a:Int)) <$> Rtype.kind t) #[.pointer (some ⟨8,195,none⟩)]).run Tryz.prog w=.ok (.int .u8 22) w:=by kernel_rfl
theorem asKindN (w:World):((ReflectliteType.abiMethod fun t=>(fun a:Nat=>Value.int IntKind.u8 (a:Int)) <$> Rtype.kind t) #[.pointer (some ⟨8,192,none⟩)]).run Tryz.prog w=.ok (.int .u8 25) w:=by kernel_rfl
theorem asMethP (z:Sem Value)(f:TypeId->Addr->Nat->Nat->Sem Value)(a:Addr)(W:World):(ReflectliteValue.method z f #[.agg #[.pointer (some ⟨8,195,none⟩),.pointer (some a),.int .u64 150]]).run Tryz.prog W=(f 195 a 150 22).run Tryz.prog W:=by kernel_rfl
theorem asIsNilP (a p:Addr)(W:World)(ha:W.cell? a=some (.pointer (some p))) :
  (ReflectliteValue.method (ReflectliteValue.valueError "reflectlite.Value.IsNil" 0) ReflectliteValue.isNil #[.agg #[.pointer (some ⟨8,195,none⟩),.pointer (some a),.int .u64 150]]).run Tryz.prog W=.ok (.bool false) W:=by
 rw[asMethP]
 simp[ReflectliteValue.isNil,loadVar,isAgg,underlying,Tryz.underlying195,ha,Result.andThen]
theorem asMethodElem (h:Value)(w:World):(Go.method 444 265 (.agg #[h]) "Elem").run Tryz.prog w=.ok (273,.agg #[h]) w:=by kernel_rfl
theorem asMethodImplements (h:Value)(w:World):(Go.method 444 265 (.agg #[h]) "Implements").run Tryz.prog w=.ok (274,.agg #[h]) w:=by kernel_rfl
theorem asMethodAssignableTo (h:Value)(w:World):(Go.method 444 265 (.agg #[h]) "AssignableTo").run Tryz.prog w=.ok (271,.agg #[h]) w:=by kernel_rfl
theorem asElemP (w:World):(ReflectliteType.method ReflectliteType.elem #[.agg #[.pointer (some ⟨8,195,none⟩)]]).run Tryz.prog w=.ok (.iface 265 (.agg #[.pointer (some ⟨8,192,none⟩)])) w:=by kernel_rfl
theorem asImplementsN (w:World):(ReflectliteType.relation "Implements" ReflectliteType.implements_ #[.agg #[.pointer (some ⟨8,192,none⟩)],.iface 265 (.agg #[.pointer (some ⟨8,188,none⟩)])]).run Tryz.prog w=.ok (.bool true) w:=by kernel_rfl
theorem asTypeOfN (v:Value)(w:World):(ReflectliteType.typeOf #[.iface 192 v]).run Tryz.prog w=.ok (.iface 265 (.agg #[.pointer (some ⟨8,192,none⟩)])) w:=by kernel_rfl
theorem asAssignableN (w:World):(ReflectliteType.relation "AssignableTo" ReflectliteType.assignableTo #[.agg #[.pointer (some ⟨8,192,none⟩)],.iface 265 (.agg #[.pointer (some ⟨8,192,none⟩)])]).run Tryz.prog w=.ok (.bool true) w:=by kernel_rfl
theorem asValueOfN (s c:Value)(w:World):(ReflectliteValue.unpack (.iface 192 (.agg #[s,c]))).run Tryz.prog w
  = .ok (.agg #[.pointer (some ⟨8,192,none⟩),.pointer (some ⟨w.heap.size,0,none⟩),.int .u64 153]) (w.alloc (.cells #[s,c] 192)):=by kernel_rfl
theorem asElemOfP (w:World):(Rtype.elem? 195).run Tryz.prog w=.ok (some 192) w:=by kernel_rfl
theorem asMkN (p:Addr)(w:World):(ReflectliteValue.mk 192 p ReflectliteValue.flagAddr).run Tryz.prog w=.ok (.agg #[.pointer (some ⟨8,192,none⟩),.pointer (some p),.int .u64 409]) w:=by kernel_rfl
theorem asElemVP (a p:Addr)(W:World)(ha:W.cell? a=some (.pointer (some p))) :
  (ReflectliteValue.method (ReflectliteValue.valueError "reflectlite.Value.Elem" 0) ReflectliteValue.elem #[.agg #[.pointer (some ⟨8,195,none⟩),.pointer (some a),.int .u64 150]]).run Tryz.prog W
   = .ok (.agg #[.pointer (some ⟨8,192,none⟩),.pointer (some p),.int .u64 409]) W:=by
 rw[asMethP]
 simp[ReflectliteValue.elem,loadVar,isAgg,underlying,Tryz.underlying195,ha,Result.andThen,asElemOfP,asMkN]
theorem asPartsNa (a:Addr)(w:World):(ReflectliteValue.parts (.agg #[.pointer (some ⟨8,192,none⟩),.pointer (some a),.int .u64 409])).run Tryz.prog w=.ok (some (192,a,409)) w:=by kernel_rfl
theorem asPartsN (a:Addr)(w:World):(ReflectliteValue.parts (.agg #[.pointer (some ⟨8,192,none⟩),.pointer (some a),.int .u64 153])).run Tryz.prog w=.ok (some (192,a,153)) w:=by kernel_rfl
theorem asDirectN (w:World):(Rtype.directlyAssignable 192 192).run Tryz.prog w=.ok true w:=by kernel_rfl
theorem setMatch (h1:(v x:Value)->Sem Value)(h2:(x:Array Value)->Sem Value)(v x:Value):ReflectliteValue.set.match_3 (fun _=>Sem Value) #[v,x] h1 h2=h1 v x:=rfl
theorem asSetN (t b:Nat)(s c o0 o1:Value)(W:World)(ty:TypeId)(fr:Nat×Nat)(hb:W.heap[b]?=some (.cells #[s,c] ty fr))(hs:s.oneCell'=true)(hc:c.oneCell'=true)
  (h0:W.cell? ⟨t,0,none⟩=some o0) (h1:W.cell? ⟨t,1,none⟩=some o1) (f0:W.frozen? ⟨t,0,none⟩=false) (f1:W.frozen? ⟨t,1,none⟩=false) :
  (ReflectliteValue.set #[.agg #[.pointer (some ⟨8,192,none⟩),.pointer (some ⟨t,0,none⟩),.int .u64 409],.agg #[.pointer (some ⟨8,192,none⟩),.pointer (some ⟨b,0,none⟩),.int .u64 153]]).run Tryz.prog W
   = .ok (.tuple #[]) ((W.setCell ⟨t,0,none⟩ s).setCell ⟨t,1,none⟩ c):=by
 have hl:=run_loadVar_row (P:=Tryz.prog) W b ty 192 #[s,c] fr _ hb Tryz.underlying192 rfl (by kernel_rfl)
 delta ReflectliteValue.set
 rw[setMatch]
 simp only[Sem.run_bind,asPartsNa,asPartsN,Result.andThen]
 simp[ReflectliteValue.flagAddr,Result.andThen,asDirectN,storeVar,Value.cells,storeCells,Addr.add,hl]
 have h1':(W.setCell ⟨t,0,none⟩ s).cell? ⟨t,1,none⟩=some o1:=by rw[World.cell?_setCell_other _ _ _ _ (by intro e;simp at e)];exact h1
 have f1':(W.setCell ⟨t,0,none⟩ s).frozen? ⟨t,1,none⟩=false:=by rw[World.frozen?_setCell];exact f1
 rw[run_store Tryz.prog W ⟨t,0,none⟩ _ _ hs]
 simp[h0,f0]
 rw[run_store Tryz.prog _ ⟨t,1,none⟩ _ _ hc]
 simp[h1',f1']
set_option maxHeartbeats 4000000 in
theorem as_hit (s:ByteArray)(c:Value)(hc:c.oneCell'=true)(t:Nat)(o0 o1:Value)(w:World)(hg:w.cell? ⟨2,0,none⟩=some (.iface 265 (.agg #[.pointer (some ⟨8,188,none⟩)])))
  (h0:w.cell? ⟨t,0,none⟩=some o0) (h1:w.cell? ⟨t,1,none⟩=some o1) (f0:w.frozen? ⟨t,0,none⟩=false) (f1:w.frozen? ⟨t,1,none⟩=false) :
  Calls Tryz.prog 156 #[.iface 192 (.agg #[.string s,c]),.iface 195 (.pointer (some ⟨t,0,none⟩))] w fun ev w'=>ev=.returned (.bool true)∧∃w1,Below w.heap.size w w1∧w'=(w1.setCell ⟨t,0,none⟩ (.string s)).setCell ⟨t,1,none⟩ c:=by
 have htl:t<w.heap.size:=block_lt_of h0
 have hgl:2<w.heap.size:=block_lt_of hg
 obtain⟨o,ho⟩:∃o,o=Obj.cells #[Value.pointer (some ⟨8,195,none⟩),.pointer (some ⟨w.heap.size,0,none⟩),.int .u64 150] 236:=⟨_,rfl⟩
 obtain⟨wa,hwa⟩:∃wa,wa=(w.alloc (.cells #[.pointer (some ⟨t,0,none⟩)] 195)).alloc o:=⟨_,rfl⟩
 have h6:=@run_callFunc_extern Tryz.prog 194 _ (fun args=>ReflectliteValue.unpack (args.getD 0 (.tuple #[]))) Tryz.func194 (by kernel_rfl) (by kernel_rfl) (by kernel_rfl) (by kernel_rfl)
 have h7:=@run_callFunc_extern Tryz.prog 195 _ (ReflectliteValue.methodAny (ReflectliteValue.valueError "reflectlite.Value.Type" 0) (fun t _ _ _=>ReflectliteType.toType t)) Tryz.func195 (by kernel_rfl) (by kernel_rfl) (by kernel_rfl) (by kernel_rfl)
 have h8:=@run_callFunc_extern Tryz.prog 196 _ (ReflectliteValue.method (ReflectliteValue.valueError "reflectlite.Value.IsNil" 0) ReflectliteValue.isNil) Tryz.func196 (by kernel_rfl) (by kernel_rfl) (by kernel_rfl) (by kernel_rfl)
 have h27:=@run_callFunc_extern Tryz.prog 260 _ (ReflectliteType.abiMethod fun t=>do pure (.int .u8 (<- Rtype.kind t))) Tryz.func260 (by kernel_rfl) (by kernel_rfl) (by kernel_rfl) (by kernel_rfl)
 have h37:=@run_callFunc_extern Tryz.prog 273 _ (ReflectliteType.method ReflectliteType.elem) Tryz.func273 (by kernel_rfl) (by kernel_rfl) (by kernel_rfl) (by kernel_rfl)
 have h38:=@run_callFunc_extern Tryz.prog 274 _ (ReflectliteType.relation "Implements" ReflectliteType.implements_) Tryz.func274 (by kernel_rfl) (by kernel_rfl) (by kernel_rfl) (by kernel_rfl)
 have h10:=@run_callFunc_extern Tryz.prog 192 _ ReflectliteType.typeOf Tryz.func192 (by kernel_rfl) (by kernel_rfl) (by kernel_rfl) (by kernel_rfl)
 have h35:=@run_callFunc_extern Tryz.prog 271 _ (ReflectliteType.relation "AssignableTo" ReflectliteType.assignableTo) Tryz.func271 (by kernel_rfl) (by kernel_rfl) (by kernel_rfl) (by kernel_rfl)
 have h11:=@run_callFunc_extern Tryz.prog 223 _ (ReflectliteValue.method (ReflectliteValue.valueError "reflectlite.Value.Elem" 0) ReflectliteValue.elem) Tryz.func223 (by kernel_rfl) (by kernel_rfl) (by kernel_rfl) (by kernel_rfl)
 have h12:=@run_callFunc_extern Tryz.prog 224 _ ReflectliteValue.set Tryz.func224 (by kernel_rfl) (by kernel_rfl) (by kernel_rfl) (by kernel_rfl)
 have tO:=asTypeOfN
 have mA:=asMethodAssignableTo
 have a25:=asAssignableN
 have v25:=asValueOfN
 have f6:=asValueOfP
 have f7:=asTypeP
 have mK:=asMethodKind
 have mE:=asMethodElem
 have mI:=asMethodImplements
 have k27:=asKindP
 have k25:=asKindN
 have e27:=asElemP
 have i25:=asImplementsN
 have n8:=asIsNilP ⟨w.heap.size,0,none⟩ ⟨t,0,none⟩ ((w.alloc (.cells #[.pointer (some ⟨t,0,none⟩)] 195)).alloc o) (by simp)
 have hg2:((w.alloc (.cells #[.pointer (some ⟨t,0,none⟩)] 195)).alloc o).cell? ⟨2,0,none⟩=some (.iface 265 (.agg #[.pointer (some ⟨8,188,none⟩)])):=by
  rw[World.cell?_alloc_lt _ _ ⟨2,0,none⟩ (by simp;omega),World.cell?_alloc_lt _ _ ⟨2,0,none⟩ hgl];exact hg
 have el:=asElemVP ⟨w.heap.size,0,none⟩ ⟨t,0,none⟩ (((w.alloc (.cells #[.pointer (some ⟨t,0,none⟩)] 195)).alloc o).alloc o) (by rw[World.cell?_alloc_lt _ _ ⟨w.heap.size,0,none⟩ (by simp;omega)];simp)
 have ca:∀j v,w.cell? ⟨t,j,none⟩=some v->((((w.alloc (.cells #[.pointer (some ⟨t,0,none⟩)] 195)).alloc o).alloc o).alloc (.cells #[.string s,c] 192)).cell? ⟨t,j,none⟩=some v:=fun j v h=>by
  rw[World.cell?_alloc_lt _ _ ⟨t,j,none⟩ (by simp;omega),World.cell?_alloc_lt _ _ ⟨t,j,none⟩ (by simp;omega),World.cell?_alloc_lt _ _ ⟨t,j,none⟩ (by simp;omega),World.cell?_alloc_lt _ _ ⟨t,j,none⟩ htl];exact h
 have cf:∀j,w.frozen? ⟨t,j,none⟩=false->((((w.alloc (.cells #[.pointer (some ⟨t,0,none⟩)] 195)).alloc o).alloc o).alloc (.cells #[.string s,c] 192)).frozen? ⟨t,j,none⟩=false:=fun j h=>by
  rw[World.frozen?_alloc_old _ _ ⟨t,j,none⟩ (by simp;omega),World.frozen?_alloc_old _ _ ⟨t,j,none⟩ (by simp;omega),World.frozen?_alloc_old _ _ ⟨t,j,none⟩ (by simp;omega),World.frozen?_alloc_old _ _ ⟨t,j,none⟩ (Nat.ne_of_lt htl)];exact h
 have st:=asSetN t (w.heap.size+1+1+1) (.string s) c o0 o1 ((((w.alloc (.cells #[.pointer (some ⟨t,0,none⟩)] 195)).alloc o).alloc o).alloc (.cells #[.string s,c] 192)) 192 (0,0)
  (heap_at (by simp)) rfl hc (ca 0 _ h0) (ca 1 _ h1) (cf 0 f0) (cf 1 f1)
 have HBW:Hid (Below w.heap.size w ((((w.alloc (.cells #[.pointer (some ⟨t,0,none⟩)] 195)).alloc o).alloc o).alloc (.cells #[.string s,c] 192))):=((((Below.refl _ _).alloc (Nat.le_refl _) _).alloc (by simp) _).alloc (by simp;omega) _).alloc (by simp;omega) _
 clear ca cf h0 h1 f0 f1 hg
 subst ho
 go_enter Tryz.func156,Tryz.ntmps156
 go_wp2
 refine wp_loop_rounds 1 ?_
 rw[rounds_succ]
 go_wp2
 go_ret
 exact⟨rfl,_,HBW.out,rfl⟩
structure Errs (w:World)(aB aL aS aC aF:Addr):Prop where
 b:w.cell? ⟨0,0,none⟩=some (.iface 312 (.pointer (some aB)))
 l:w.cell? ⟨4,0,none⟩=some (.iface 312 (.pointer (some aL)))
 s:w.cell? ⟨3,0,none⟩=some (.iface 312 (.pointer (some aS)))
 c:w.cell? ⟨5,0,none⟩=some (.iface 312 (.pointer (some aC)))
 f:w.cell? ⟨6,0,none⟩=some (.iface 312 (.pointer (some aF)))
 t:w.cell? ⟨2,0,none⟩=some (.iface 265 (.agg #[.pointer (some ⟨8,188,none⟩)]))
 hb:∃c t,w.heap[aB.block]?=some (.cells c t (0,0))
 hl:∃c t,w.heap[aL.block]?=some (.cells c t (0,0))
 hs:∃c t,w.heap[aS.block]?=some (.cells c t (0,0))
 hc:∃c t,w.heap[aC.block]?=some (.cells c t (0,0))
 hf:∃c t,w.heap[aF.block]?=some (.cells c t (0,0))
 nl:aL≠aB
 ns:aS≠aB
 nc:aC≠aB
 nf:aF≠aB
theorem cell_on {w w':World}{b o:Nat}{v:Value}(h:w.cell? ⟨b,o,none⟩=some v)(hb:Below w.heap.size w w'):w'.cell? ⟨b,o,none⟩=some v :=
 (hb.cell (p:=⟨b,o,none⟩) (block_lt_of h)).trans h
theorem blk_on {w w':World}{b:Nat}(h:∃c t,w.heap[b]?=some (.cells c t (0,0)))(hb:Below w.heap.size w w'):∃c t,w'.heap[b]?=some (.cells c t (0,0)):=by
 obtain⟨c,t,h⟩:=h
 exact⟨c,t,block_on h hb⟩
theorem Errs.here {w w':World}{aB aL aS aC aF:Addr}(h:Errs w aB aL aS aC aF)(b:Below w.heap.size w w'):Errs w' aB aL aS aC aF :=
 ⟨cell_on h.b b,cell_on h.l b,cell_on h.s b,cell_on h.c b,cell_on h.f b,cell_on h.t b,blk_on h.hb b,blk_on h.hl b,blk_on h.hs b,blk_on h.hc b,blk_on h.hf b,h.nl,h.ns,h.nc,h.nf⟩
theorem cell_four {W:World}{g b o:Nat}{v:Value}(h:W.cell? ⟨g,o,none⟩=some v)(hne:g≠b)(v0 v1 v2 v3:Value) :
  ((((W.setCell ⟨b,0,none⟩ v0).setCell ⟨b,1,none⟩ v1).setCell ⟨b,2,none⟩ v2).setCell ⟨b,3,none⟩ v3).cell? ⟨g,o,none⟩=some v:=by
 have e:∀(X:World) (j:Nat) (u:Value),(X.setCell ⟨b,j,none⟩ u).cell? ⟨g,o,none⟩=X.cell? ⟨g,o,none⟩:=fun X j u=>World.cell?_setCell_other _ _ _ _ (by intro e;simp only[Addr.mk.injEq] at e;omega)
 rw[e,e,e,e];exact h
theorem i64_or_natE (a b:Nat)(ha:a<4294967296)(hb:b<4294967296):bits .or .i64 (a:Int) (b:Int)=((a|||b:Nat):Int):=by
 have hx:a|||b<2 ^ 32:=Nat.or_lt_two_pow (by omega) (by omega)
 show IntKind.i64.wrap ((BitVec.ofInt 64 (a:Int)|||BitVec.ofInt 64 (b:Int)).toNat:Int)=_
 rw[BitVec.toNat_or,ofInt_u64 a (by omega),ofInt_u64 b (by omega)]
 simp[IntKind.wrap,IntKind.bits,IntKind.signed]
 omega
theorem or_add (a b:Nat)(i:Nat)(hb:b<2 ^ i):a*2 ^ i|||b=a*2 ^ i+b:=by
 rw[<- Nat.shiftLeft_eq,Nat.shiftLeft_add_eq_or_of_lt hb]
theorem stamp_or {B2 B3 B4:Nat}(h2:B2<256)(h3:B3<256)(h4:B4<256) :
  bits .or .i64 (bits .or .i64 ((B2:Int)*65536) ((B3:Int)*256)) (B4:Int)=((B2*65536+B3*256+B4:Nat):Int):=by
 have e1:bits .or .i64 ((B2:Int)*65536) ((B3:Int)*256)=((B2*65536+B3*256:Nat):Int):=by
  have:=i64_or_natE (B2*65536) (B3*256) (by omega) (by omega)
  rw[show(B2*65536|||B3*256)=B2*65536+B3*256 from or_add B2 (B3*256) 16 (by omega)] at this
  rw[<- this];rfl
 rw[e1,i64_or_natE (B2*65536+B3*256) B4 (by omega) (by omega),show(B2*65536+B3*256|||B4)=B2*65536+B3*256+B4 from by rw[show B2*65536+B3*256=(B2*256+B3)*2 ^ 8 by omega,or_add _ B4 8 (by omega)]]
def Four (aL aS aC aF a:Addr):Prop:=a=aL∨a=aS∨a=aC∨a=aF
theorem Errs.other {w:World}{aB aL aS aC aF a:Addr}(h:Errs w aB aL aS aC aF)(h4:Four aL aS aC aF a):a≠aB∧∃c t,w.heap[a.block]?=some (.cells c t (0,0)):=by
 rcases h4 with rfl|rfl|rfl|rfl
 ·exact⟨h.nl,h.hl⟩
 ·exact⟨h.ns,h.hs⟩
 ·exact⟨h.nc,h.hc⟩
 ·exact⟨h.nf,h.hf⟩
end Go.Proofs.YtgjoepdfhadmcaaGreatDoor
end

