/-
  PROVED HERE: errors.As at the refusals of the reader; expr.Parse at every text.
-/
import Derived.LaidEql
import Derived.Stop.Asserts
import Derived.RowKitTokens
import Derived.Test.YtjkebndkeamijaaGreatDoorCADAParseB
import Derived.Test.YtjkebndkeamijaaGreatDoorCADAPRight
set_option maxRecDepth 100000
set_option maxHeartbeats 4000000
namespace Go.Proofs.YtjkebndkeamijaaGreatDoor
open Go.RowKit Go.Extern.Stop Go.Stop Go.Extern
theorem gAs (h : Value)(w : World) : (Go.method 386 243 (.agg #[h]) "Kind").run Tryz.prog w = .ok (213, h) w := by kernel_rfl
theorem gAt (h : Value)(w : World) : (Go.method 386 243 (.agg #[h]) "Elem").run Tryz.prog w = .ok (226, .agg #[h]) w := by kernel_rfl
theorem sX (h : Value)(w : World) : (Go.method 386 243 (.agg #[h]) "Implements").run Tryz.prog w = .ok (227, .agg #[h]) w := by kernel_rfl
theorem rH (h : Value)(w : World) : (Go.method 386 243 (.agg #[h]) "AssignableTo").run Tryz.prog w = .ok (224, .agg #[h]) w := by kernel_rfl
theorem gUw (a b:Value)(h1:(#[a,b]:Array Value).size=2)(h2:1<2):(#[a,b]:Array Value).getLit 1 h1 h2=b:=rfl
end Go.Proofs.YtjkebndkeamijaaGreatDoor
/- As2: errors.As at a refusal of expr's, hDc targets of told, and told: what they return and leave. -/
namespace Go.Proofs.YtjkebndkeamijaaGreatDoor
open Go.RowKit Go.Extern.Stop Go.Stop Go.Extern
theorem gNw (t:Addr)(w:World):(ReflectliteValue.unpack (.iface 224 (.pointer (some t)))).run Tryz.prog w
  = .ok (.agg #[.pointer (some ⟨3,224,none⟩),.pointer (some ⟨w.heap.size,0,none⟩),.int .u64 150]) (w.alloc (.cells #[.pointer (some t)] 224)):=by kernel_rfl
theorem hAc (a : Addr)(w : World) : (ReflectliteValue.methodAny (ReflectliteValue.valueError "reflectlite.Value.Type" 0) (fun t _ _ _ => ReflectliteType.toType t) #[.agg #[.pointer (some ⟨3, 224, none⟩), .pointer (some a), .int .u64 150]]).run Tryz.prog w
  = .ok (.iface 243 (.agg #[.pointer (some ⟨3,224,none⟩)])) w:=by kernel_rfl
theorem hAe (w:World):((ReflectliteType.abiMethod fun t=>(fun a:Nat=>Value.int IntKind.u8 (a:Int)) <$> Rtype.kind t) #[.pointer (some ⟨3,224,none⟩)]).run Tryz.prog w=.ok (.int .u8 22) w:=by kernel_rfl
theorem hEf (w:World):((ReflectliteType.abiMethod fun t=>(fun a:Nat=>Value.int IntKind.u8 (a:Int)) <$> Rtype.kind t) #[.pointer (some ⟨3,219,none⟩)]).run Tryz.prog w=.ok (.int .u8 25) w:=by kernel_rfl
theorem gIr (a:Addr)(w:World):(ReflectliteValue.parts (.agg #[.pointer (some ⟨3,224,none⟩),.pointer (some a),.int .u64 150])).run Tryz.prog w=.ok (some (224,a,150)) w:=by kernel_rfl
theorem hAf (a p:Addr)(W:World)(ha:W.cell? a=some (.pointer (some p))) :
  (ReflectliteValue.method (ReflectliteValue.valueError "reflectlite.Value.IsNil" 0) ReflectliteValue.isNil #[.agg #[.pointer (some ⟨3, 224, none⟩), .pointer (some a), .int .u64 150]]).run Tryz.prog W = .ok (.bool false) W := by
 refine Eq.trans (Sem.run_bind (x:=ReflectliteValue.parts (.agg #[.pointer (some ⟨3,224,none⟩),.pointer (some a),.int .u64 150])) ..) ?_
 simp only[gIr,Result.andThen]
 simp[ReflectliteValue.isNil,loadVar,isAgg,underlying,Tryz.underlying224,ha,Result.andThen]
theorem hEh (w:World):(ReflectliteType.method ReflectliteType.elem #[.agg #[.pointer (some ⟨3,224,none⟩)]]).run Tryz.prog w=.ok (.iface 243 (.agg #[.pointer (some ⟨3,219,none⟩)])) w:=by kernel_rfl
theorem gHo (w : World) : (ReflectliteType.relation "Implements" ReflectliteType.implements_ #[.agg #[.pointer (some ⟨3, 219, none⟩)], .iface 243 (.agg #[.pointer (some ⟨3, 206, none⟩)])]).run Tryz.prog w = .ok (.bool true) w := by kernel_rfl
theorem gIq (v:Value)(w:World):(ReflectliteType.typeOf #[.iface 219 v]).run Tryz.prog w=.ok (.iface 243 (.agg #[.pointer (some ⟨3,219,none⟩)])) w:=by kernel_rfl
theorem gHp (w : World) : (ReflectliteType.relation "AssignableTo" ReflectliteType.assignableTo #[.agg #[.pointer (some ⟨3, 219, none⟩)], .iface 243 (.agg #[.pointer (some ⟨3, 219, none⟩)])]).run Tryz.prog w = .ok (.bool true) w := by kernel_rfl
theorem gWh (w:World):(Rtype.elem? 224).run Tryz.prog w=.ok (some 219) w:=by kernel_rfl
theorem hGs (p:Addr)(w:World):(ReflectliteValue.mk 219 p ReflectliteValue.flagAddr).run Tryz.prog w=.ok (.agg #[.pointer (some ⟨3,219,none⟩),.pointer (some p),.int .u64 409]) w:=by kernel_rfl
theorem hAg (a p:Addr)(W:World)(ha:W.cell? a=some (.pointer (some p))) :
  (ReflectliteValue.method (ReflectliteValue.valueError "reflectlite.Value.Elem" 0) ReflectliteValue.elem #[.agg #[.pointer (some ⟨3, 224, none⟩), .pointer (some a), .int .u64 150]]).run Tryz.prog W
   = .ok (.agg #[.pointer (some ⟨3,219,none⟩),.pointer (some p),.int .u64 409]) W:=by
 refine Eq.trans (Sem.run_bind (x:=ReflectliteValue.parts (.agg #[.pointer (some ⟨3,224,none⟩),.pointer (some a),.int .u64 150])) ..) ?_
 simp only[gIr,Result.andThen]
 simp[ReflectliteValue.elem,loadVar,isAgg,underlying,Tryz.underlying224,ha,Result.andThen,gWh,hGs]
theorem gWg (a:Addr)(w:World):(ReflectliteValue.parts (.agg #[.pointer (some ⟨3,219,none⟩),.pointer (some a),.int .u64 409])).run Tryz.prog w=.ok (some (219,a,409)) w:=by kernel_rfl
theorem hAd (a:Addr)(w:World):(ReflectliteValue.parts (.agg #[.pointer (some ⟨3,219,none⟩),.pointer (some a),.int .u64 153])).run Tryz.prog w=.ok (some (219,a,153)) w:=by kernel_rfl
theorem gWi (w:World):(Rtype.directlyAssignable 219 219).run Tryz.prog w=.ok true w:=by kernel_rfl
theorem gNx (t:Addr)(w:World):(ReflectliteValue.unpack (.iface 225 (.pointer (some t)))).run Tryz.prog w
  = .ok (.agg #[.pointer (some ⟨3,225,none⟩),.pointer (some ⟨w.heap.size,0,none⟩),.int .u64 150]) (w.alloc (.cells #[.pointer (some t)] 225)):=by kernel_rfl
theorem hAh (a : Addr)(w : World) : (ReflectliteValue.methodAny (ReflectliteValue.valueError "reflectlite.Value.Type" 0) (fun t _ _ _ => ReflectliteType.toType t) #[.agg #[.pointer (some ⟨3, 225, none⟩), .pointer (some a), .int .u64 150]]).run Tryz.prog w
  = .ok (.iface 243 (.agg #[.pointer (some ⟨3,225,none⟩)])) w:=by kernel_rfl
theorem hAj (w:World):((ReflectliteType.abiMethod fun t=>(fun a:Nat=>Value.int IntKind.u8 (a:Int)) <$> Rtype.kind t) #[.pointer (some ⟨3,225,none⟩)]).run Tryz.prog w=.ok (.int .u8 22) w:=by kernel_rfl
theorem hEi (w:World):((ReflectliteType.abiMethod fun t=>(fun a:Nat=>Value.int IntKind.u8 (a:Int)) <$> Rtype.kind t) #[.pointer (some ⟨3,28,none⟩)]).run Tryz.prog w=.ok (.int .u8 2) w:=by kernel_rfl
theorem gIs (a:Addr)(w:World):(ReflectliteValue.parts (.agg #[.pointer (some ⟨3,225,none⟩),.pointer (some a),.int .u64 150])).run Tryz.prog w=.ok (some (225,a,150)) w:=by kernel_rfl
theorem hAk (a p:Addr)(W:World)(ha:W.cell? a=some (.pointer (some p))) :
  (ReflectliteValue.method (ReflectliteValue.valueError "reflectlite.Value.IsNil" 0) ReflectliteValue.isNil #[.agg #[.pointer (some ⟨3, 225, none⟩), .pointer (some a), .int .u64 150]]).run Tryz.prog W = .ok (.bool false) W := by
 refine Eq.trans (Sem.run_bind (x:=ReflectliteValue.parts (.agg #[.pointer (some ⟨3,225,none⟩),.pointer (some a),.int .u64 150])) ..) ?_
 simp only[gIs,Result.andThen]
 simp[ReflectliteValue.isNil,loadVar,isAgg,underlying,Tryz.underlying225,ha,Result.andThen]
theorem hEj (w:World):(ReflectliteType.method ReflectliteType.elem #[.agg #[.pointer (some ⟨3,225,none⟩)]]).run Tryz.prog w=.ok (.iface 243 (.agg #[.pointer (some ⟨3,28,none⟩)])) w:=by kernel_rfl
theorem gHq (w : World) : (ReflectliteType.relation "Implements" ReflectliteType.implements_ #[.agg #[.pointer (some ⟨3, 28, none⟩)], .iface 243 (.agg #[.pointer (some ⟨3, 206, none⟩)])]).run Tryz.prog w = .ok (.bool true) w := by kernel_rfl
theorem gWj (v:Value)(w:World):(ReflectliteType.typeOf #[.iface 28 v]).run Tryz.prog w=.ok (.iface 243 (.agg #[.pointer (some ⟨3,28,none⟩)])) w:=by kernel_rfl
theorem gHr (w : World) : (ReflectliteType.relation "AssignableTo" ReflectliteType.assignableTo #[.agg #[.pointer (some ⟨3, 28, none⟩)], .iface 243 (.agg #[.pointer (some ⟨3, 28, none⟩)])]).run Tryz.prog w = .ok (.bool true) w := by kernel_rfl
theorem gWl (w:World):(Rtype.elem? 225).run Tryz.prog w=.ok (some 28) w:=by kernel_rfl
theorem hGu (p:Addr)(w:World):(ReflectliteValue.mk 28 p ReflectliteValue.flagAddr).run Tryz.prog w=.ok (.agg #[.pointer (some ⟨3,28,none⟩),.pointer (some p),.int .u64 386]) w:=by kernel_rfl
theorem hAl (a p:Addr)(W:World)(ha:W.cell? a=some (.pointer (some p))) :
  (ReflectliteValue.method (ReflectliteValue.valueError "reflectlite.Value.Elem" 0) ReflectliteValue.elem #[.agg #[.pointer (some ⟨3, 225, none⟩), .pointer (some a), .int .u64 150]]).run Tryz.prog W
   = .ok (.agg #[.pointer (some ⟨3,28,none⟩),.pointer (some p),.int .u64 386]) W:=by
 refine Eq.trans (Sem.run_bind (x:=ReflectliteValue.parts (.agg #[.pointer (some ⟨3,225,none⟩),.pointer (some a),.int .u64 150])) ..) ?_
 simp only[gIs,Result.andThen]
 simp[ReflectliteValue.elem,loadVar,isAgg,underlying,Tryz.underlying225,ha,Result.andThen,gWl,hGu]
theorem gWk (a:Addr)(w:World):(ReflectliteValue.parts (.agg #[.pointer (some ⟨3,28,none⟩),.pointer (some a),.int .u64 386])).run Tryz.prog w=.ok (some (28,a,386)) w:=by kernel_rfl
theorem hAi (a:Addr)(w:World):(ReflectliteValue.parts (.agg #[.pointer (some ⟨3,28,none⟩),.pointer (some a),.int .u64 130])).run Tryz.prog w=.ok (some (28,a,130)) w:=by kernel_rfl
theorem gWm (w:World):(Rtype.directlyAssignable 28 28).run Tryz.prog w=.ok true w:=by kernel_rfl
theorem gRy (x y:Value)(w:World):(ReflectliteValue.unpack (.iface 219 (.agg #[x,y]))).run Tryz.prog w
  = .ok (.agg #[.pointer (some ⟨3,219,none⟩),.pointer (some ⟨w.heap.size,0,none⟩),.int .u64 153]) (w.alloc (.cells #[x,y] 219)):=by kernel_rfl
theorem gRz (n:Int)(w:World):(ReflectliteValue.unpack (.iface 28 (.int .i64 n))).run Tryz.prog w
  = .ok (.agg #[.pointer (some ⟨3,28,none⟩),.pointer (some ⟨w.heap.size,0,none⟩),.int .u64 130]) (w.alloc (.cells #[.int .i64 n] 28)):=by kernel_rfl
theorem gFy (w : World) : (ReflectliteType.relation "AssignableTo" ReflectliteType.assignableTo #[.agg #[.pointer (some ⟨3, 219, none⟩)], .iface 243 (.agg #[.pointer (some ⟨3, 28, none⟩)])]).run Tryz.prog w = .ok (.bool false) w := by kernel_rfl
theorem hGg (tb b:Nat)(i n:Int)(old:Array Value)(W:World)(hb:W.heap[b]? = some (.cells #[.int .i64 i,.iface 28 (.int .i64 n)] 219 (0,0)))(ht:W.heap[tb]? = some (.cells old 219 (0,0)))(ho:old.size=2) :
  (ReflectliteValue.set #[.agg #[.pointer (some ⟨3,219,none⟩),.pointer (some ⟨tb,0,none⟩),.int .u64 409],.agg #[.pointer (some ⟨3,219,none⟩),.pointer (some ⟨b,0,none⟩),.int .u64 153]]).run Tryz.prog W
   = .ok (.tuple #[]) (W.setRow tb #[.int .i64 i,.iface 28 (.int .i64 n)]):=by
 have h1:=run_loadVar_row (P:=Tryz.prog) W b 219 219 _ _ _ hb Tryz.underlying219 rfl kr
 have h2:=run_storeVar_row (P:=Tryz.prog) W tb 219 219 old #[.int .i64 i,.iface 28 (.int .i64 n)] ht kr (by rw[ho];rfl) (by rw[Array.all_eq_true_iff_forall_mem];intro v hv;simp at hv;rcases hv with rfl | rfl<;>rfl)
 refine Eq.trans (Sem.run_bind (x:=ReflectliteValue.parts (.agg #[.pointer (some ⟨3,219,none⟩),.pointer (some ⟨tb,0,none⟩),.int .u64 409])) ..) ?_
 simp only[Sem.run_bind,gWg,gUw,hAd,Result.andThen]
 simp[ReflectliteValue.flagAddr,h1,h2,Result.andThen,gWi]
theorem hGh (ta b:Addr)(n:Int)(old:Value)(W:World)(hb:W.cell? b=some (.int .i64 n))(ht:W.cell? ta=some old)(hf:W.frozen? ta=false) :
  (ReflectliteValue.set #[.agg #[.pointer (some ⟨3,28,none⟩),.pointer (some ta),.int .u64 386],.agg #[.pointer (some ⟨3,28,none⟩),.pointer (some b),.int .u64 130]]).run Tryz.prog W
   = .ok (.tuple #[]) (W.setCell ta (.int .i64 n)):=by
 refine Eq.trans (Sem.run_bind (x:=ReflectliteValue.parts (.agg #[.pointer (some ⟨3,28,none⟩),.pointer (some ta),.int .u64 386])) ..) ?_
 simp only[Sem.run_bind,gWk,gUw,hAi,Result.andThen]
 simp[ReflectliteValue.flagAddr,loadVar,isAgg,underlying,Tryz.underlying28,hb,Result.andThen,gWm,storeVar,Value.cells,storeCells,Addr.add]
 rw[run_store Tryz.prog W ta _ _ (by rfl)]
 simp[ht,hf]
theorem hGj (v:Value)(xT:TypeId)(w:World):(Instr.typeAssert (.iface 219 v) xT 248 true).run Tryz.prog w=.ok (.tuple #[.nilIface,.bool false]) w:=run_typeAssert_lacksB Tryz.underlying248 kr kr v xT w
theorem hAm (v:Value)(xT:TypeId)(w:World):(Instr.typeAssert (.iface 219 v) xT 251 true).run Tryz.prog w=.ok (.tuple #[.iface 219 v,.bool true]) w:=run_typeAssert_hasB Tryz.underlying251 kr v xT w
theorem gFz (x y : Value)(w : World) : (Go.method 386 219 (.agg #[x, y]) "Unwrap").run Tryz.prog w = .ok (219, .agg #[x, y]) w := by kernel_rfl
end Go.Proofs.YtjkebndkeamijaaGreatDoor
/- As3: errors.As at a refusal of expr's, hDc targets of told, and told: what they return and leave. -/
namespace Go.Proofs.YtjkebndkeamijaaGreatDoor
open Go.RowKit Go.Extern.Stop Go.Stop Go.Extern
def ETy (w:World):Prop:=w.cell? ⟨1,0,none⟩=some (.iface 243 (.agg #[.pointer (some ⟨3,206,none⟩)]))
theorem ETy.lt {w:World}(h:ETy w):1<w.heap.size:=by
 rcases Nat.lt_or_ge 1 w.heap.size with h1 | h0
 ·exact h1
 ·unfold ETy at h
  simp[World.cell?,Array.getElem?_eq_none h0] at h
theorem gCm (w:World)(o:Obj):(w.alloc o).heap[w.heap.size]? = some o:=Array.getElem?_push_size ..
def yT (pt a:Nat):Array Value:=#[.pointer (some ⟨3,pt,none⟩),.pointer (some ⟨a,0,none⟩),.int .u64 150]
theorem k94{p:Prop}(h:p:=by
  rw[World.cell?_alloc_lt _ _ ⟨1,0,none⟩ (by show 1<_;rw[World.size_alloc];omega),World.cell?_alloc_lt _ _ ⟨1,0,none⟩ hlt];exact hg
  ):p:=h
theorem hDg (i n:Int)(tb:Nat)(old:Array Value)(w:World)(hg:ETy w)(ht:w.heap[tb]? = some (.cells old 219 (0,0)))(ho:old.size=2) :
  Calls Tryz.prog 167 #[.iface 219 (.agg #[.int .i64 i,.iface 28 (.int .i64 n)]),.iface 224 (.pointer (some ⟨tb,0,none⟩))] w fun ev w' => ev=.returned (.bool true) ∧
   w' = ((((w.alloc (.cells #[.pointer (some ⟨tb,0,none⟩)] 224)).alloc (.cells (yT 224 w.heap.size) 231)).alloc (.cells (yT 224 w.heap.size) 231)).alloc (.cells #[.int .i64 i,.iface 28 (.int .i64 n)] 219)).setRow tb #[.int .i64 i,.iface 28 (.int .i64 n)]:=by
 have hlt:=hg.lt
 have htl:tb<w.heap.size:=(zza.1 ht).1
 unfold ETy at hg
 unfold yT
 have h6:=@run_callFunc_extern Tryz.prog 174 _ (fun args=>ReflectliteValue.unpack (args.getD 0 (.tuple #[]))) Tryz.func174 kr kr kr kr
 have h7 := @run_callFunc_extern Tryz.prog 175 _ (ReflectliteValue.methodAny (ReflectliteValue.valueError "reflectlite.Value.Type" 0) (fun t _ _ _ => ReflectliteType.toType t)) Tryz.func175 kr kr kr kr
 have h8 := @run_callFunc_extern Tryz.prog 176 _ (ReflectliteValue.method (ReflectliteValue.valueError "reflectlite.Value.IsNil" 0) ReflectliteValue.isNil) Tryz.func176 kr kr kr kr
 have h27:=@run_callFunc_extern Tryz.prog 213 _ (ReflectliteType.abiMethod fun t=>do pure (.int .u8 (← Rtype.kind t))) Tryz.func213 kr kr kr kr
 have h37:=@run_callFunc_extern Tryz.prog 226 _ (ReflectliteType.method ReflectliteType.elem) Tryz.func226 kr kr kr kr
 have h38 := @run_callFunc_extern Tryz.prog 227 _ (ReflectliteType.relation "Implements" ReflectliteType.implements_) Tryz.func227 kr kr kr kr
 have h10:=@run_callFunc_extern Tryz.prog 184 _ ReflectliteType.typeOf Tryz.func184 kr kr kr kr
 have h35 := @run_callFunc_extern Tryz.prog 224 _ (ReflectliteType.relation "AssignableTo" ReflectliteType.assignableTo) Tryz.func224 kr kr kr kr
 have h11 := @run_callFunc_extern Tryz.prog 185 _ (ReflectliteValue.method (ReflectliteValue.valueError "reflectlite.Value.Elem" 0) ReflectliteValue.elem) Tryz.func185 kr kr kr kr
 have h12:=@run_callFunc_extern Tryz.prog 186 _ ReflectliteValue.set Tryz.func186 kr kr kr kr
 have tO:=gIq
 have mA:=rH
 have a25:=gHp
 have v25:=gRy
 have f6:=gNw
 have f7:=hAc
 have mK:=gAs
 have mE:=gAt
 have mI:=sX
 have k27:=hAe
 have k25:=hEf
 have e27:=hEh
 have i25:=gHo
 have n8:=hAf ⟨w.heap.size,0,none⟩ ⟨tb,0,none⟩ ((w.alloc (.cells #[.pointer (some ⟨tb,0,none⟩)] 224)).alloc (.cells #[.pointer (some ⟨3,224,none⟩),.pointer (some ⟨w.heap.size,0,none⟩),.int .u64 150] 231)) (by simp)
 have hg2:((w.alloc (.cells #[.pointer (some ⟨tb,0,none⟩)] 224)).alloc (.cells #[.pointer (some ⟨3,224,none⟩),.pointer (some ⟨w.heap.size,0,none⟩),.int .u64 150] 231)).cell? ⟨1,0,none⟩=some (.iface 243 (.agg #[.pointer (some ⟨3,206,none⟩)])):=by
  exact k94
 have el:=hAg ⟨w.heap.size,0,none⟩ ⟨tb,0,none⟩ (((w.alloc (.cells #[.pointer (some ⟨tb,0,none⟩)] 224)).alloc (.cells #[.pointer (some ⟨3,224,none⟩),.pointer (some ⟨w.heap.size,0,none⟩),.int .u64 150] 231)).alloc (.cells #[.pointer (some ⟨3,224,none⟩),.pointer (some ⟨w.heap.size,0,none⟩),.int .u64 150] 231)) (by rw[World.cell?_alloc_lt _ _ ⟨w.heap.size,0,none⟩ (by simp;omega)];simp)
 have st:=hGg tb (w.heap.size+1+1+1) i n old ((((w.alloc (.cells #[.pointer (some ⟨tb,0,none⟩)] 224)).alloc (.cells #[.pointer (some ⟨3,224,none⟩),.pointer (some ⟨w.heap.size,0,none⟩),.int .u64 150] 231)).alloc (.cells #[.pointer (some ⟨3,224,none⟩),.pointer (some ⟨w.heap.size,0,none⟩),.int .u64 150] 231)).alloc (.cells #[.int .i64 i,.iface 28 (.int .i64 n)] 219))
  (by
   have:=gCm (((w.alloc (.cells #[.pointer (some ⟨tb,0,none⟩)] 224)).alloc (.cells #[.pointer (some ⟨3,224,none⟩),.pointer (some ⟨w.heap.size,0,none⟩),.int .u64 150] 231)).alloc (.cells #[.pointer (some ⟨3,224,none⟩),.pointer (some ⟨w.heap.size,0,none⟩),.int .u64 150] 231)) (.cells #[.int .i64 i,.iface 28 (.int .i64 n)] 219)
   simpa using this)
  (by rw[zzf _ _ tb (by simp;omega),zzf _ _ tb (by simp;omega),zzf _ _ tb (by simp;omega),zzf _ _ tb htl];exact ht) ho
 go_enter Tryz.func167,Tryz.ntmps167
 go_wp2
 refine wp_loop_rounds 1 ?_
 rw[rounds_succ]
 go_wp2
 go_ret
 exact⟨rfl,rfl⟩
end Go.Proofs.YtjkebndkeamijaaGreatDoor
/- As4: errors.As at a refusal of expr's: its number found; and told. -/
namespace Go.Proofs.YtjkebndkeamijaaGreatDoor
open Go.RowKit Go.Extern.Stop Go.Stop Go.Extern
theorem gKd (i n:Int)(w:World):Calls Tryz.prog 219 #[.agg #[.int .i64 i,.iface 28 (.int .i64 n)]] w fun e w' => e=.returned (.iface 28 (.int .i64 n))/\w' = w.alloc (.cells #[.int .i64 i,.iface 28 (.int .i64 n)] 219):=by
 go_enter Tryz.func219,Tryz.ntmps219
 go_wp2
 go_ret
 exact⟨rfl,rfl⟩
theorem gYx (i n:Int)(tb:Nat)(old:Value)(w:World)(hg:ETy w)(ht:w.heap[tb]? = some (.cells #[old] 28 (0,0))) :
  Calls Tryz.prog 167 #[.iface 219 (.agg #[.int .i64 i,.iface 28 (.int .i64 n)]),.iface 225 (.pointer (some ⟨tb,0,none⟩))] w fun ev w' => ev=.returned (.bool true) ∧
   w' = (((((w.alloc (.cells #[.pointer (some ⟨tb,0,none⟩)] 225)).alloc (.cells (yT 225 w.heap.size) 231)).alloc (.cells (yT 225 w.heap.size) 231)).alloc (.cells #[.int .i64 i,.iface 28 (.int .i64 n)] 219)).alloc (.cells #[.int .i64 n] 28)).setCell ⟨tb,0,none⟩ (.int .i64 n):=by
 have hlt:=hg.lt
 have htl:tb<w.heap.size:=(zza.1 ht).1
 unfold ETy at hg
 unfold yT
 have h6:=@run_callFunc_extern Tryz.prog 174 _ (fun args=>ReflectliteValue.unpack (args.getD 0 (.tuple #[]))) Tryz.func174 kr kr kr kr
 have h7 := @run_callFunc_extern Tryz.prog 175 _ (ReflectliteValue.methodAny (ReflectliteValue.valueError "reflectlite.Value.Type" 0) (fun t _ _ _ => ReflectliteType.toType t)) Tryz.func175 kr kr kr kr
 have h8 := @run_callFunc_extern Tryz.prog 176 _ (ReflectliteValue.method (ReflectliteValue.valueError "reflectlite.Value.IsNil" 0) ReflectliteValue.isNil) Tryz.func176 kr kr kr kr
 have h27:=@run_callFunc_extern Tryz.prog 213 _ (ReflectliteType.abiMethod fun t=>do pure (.int .u8 (← Rtype.kind t))) Tryz.func213 kr kr kr kr
 have h37:=@run_callFunc_extern Tryz.prog 226 _ (ReflectliteType.method ReflectliteType.elem) Tryz.func226 kr kr kr kr
 have h38 := @run_callFunc_extern Tryz.prog 227 _ (ReflectliteType.relation "Implements" ReflectliteType.implements_) Tryz.func227 kr kr kr kr
 have h10:=@run_callFunc_extern Tryz.prog 184 _ ReflectliteType.typeOf Tryz.func184 kr kr kr kr
 have h35 := @run_callFunc_extern Tryz.prog 224 _ (ReflectliteType.relation "AssignableTo" ReflectliteType.assignableTo) Tryz.func224 kr kr kr kr
 have h11 := @run_callFunc_extern Tryz.prog 185 _ (ReflectliteValue.method (ReflectliteValue.valueError "reflectlite.Value.Elem" 0) ReflectliteValue.elem) Tryz.func185 kr kr kr kr
 have h12:=@run_callFunc_extern Tryz.prog 186 _ ReflectliteValue.set Tryz.func186 kr kr kr kr
 have tO:=gWj
 have mA:=rH
 have a25:=gHr
 have v25:=gRz
 have f6:=gNx
 have f7:=hAh
 have mK:=gAs
 have mE:=gAt
 have mI:=sX
 have k27:=hAj
 have k25:=hEi
 have e27:=hEj
 have i25:=gHq
 have n8:=hAk ⟨w.heap.size,0,none⟩ ⟨tb,0,none⟩ ((w.alloc (.cells #[.pointer (some ⟨tb,0,none⟩)] 225)).alloc (.cells #[.pointer (some ⟨3,225,none⟩),.pointer (some ⟨w.heap.size,0,none⟩),.int .u64 150] 231)) (by simp)
 have hg2:((w.alloc (.cells #[.pointer (some ⟨tb,0,none⟩)] 225)).alloc (.cells #[.pointer (some ⟨3,225,none⟩),.pointer (some ⟨w.heap.size,0,none⟩),.int .u64 150] 231)).cell? ⟨1,0,none⟩=some (.iface 243 (.agg #[.pointer (some ⟨3,206,none⟩)])):=by
  exact k94
 have el:=hAl ⟨w.heap.size,0,none⟩ ⟨tb,0,none⟩ ((((w.alloc (.cells #[.pointer (some ⟨tb,0,none⟩)] 225)).alloc (.cells #[.pointer (some ⟨3,225,none⟩),.pointer (some ⟨w.heap.size,0,none⟩),.int .u64 150] 231)).alloc (.cells #[.pointer (some ⟨3,225,none⟩),.pointer (some ⟨w.heap.size,0,none⟩),.int .u64 150] 231)).alloc (.cells #[.int .i64 i,.iface 28 (.int .i64 n)] 219)) (by rw[World.cell?_alloc_lt _ _ ⟨w.heap.size,0,none⟩ (by simp;omega),World.cell?_alloc_lt _ _ ⟨w.heap.size,0,none⟩ (by simp;omega)];simp)
 have hc0:w.cell? ⟨tb,0,none⟩=some old:=cell_of_row w tb 0 _ _ _ ht
 have hf0:w.frozen? ⟨tb,0,none⟩=false:=by simp[World.frozen?,ht]
 have tR:=gIq
 have aR:=gFy
 have nA:=hGj
 have uW:=hAm
 have mU:=gFz
 have st:=hGh ⟨tb,0,none⟩ ⟨w.heap.size+1+1+1+1,0,none⟩ n old (((((w.alloc (.cells #[.pointer (some ⟨tb,0,none⟩)] 225)).alloc (.cells #[.pointer (some ⟨3,225,none⟩),.pointer (some ⟨w.heap.size,0,none⟩),.int .u64 150] 231)).alloc (.cells #[.pointer (some ⟨3,225,none⟩),.pointer (some ⟨w.heap.size,0,none⟩),.int .u64 150] 231)).alloc (.cells #[.int .i64 i,.iface 28 (.int .i64 n)] 219)).alloc (.cells #[.int .i64 n] 28))
  (by rw[World.cell?_alloc_at _ _ _ _ (by simp)];rfl)
  (by rw[World.cell?_alloc_lt _ _ ⟨tb,0,none⟩ (by simp;omega),World.cell?_alloc_lt _ _ ⟨tb,0,none⟩ (by simp;omega),World.cell?_alloc_lt _ _ ⟨tb,0,none⟩ (by simp;omega),World.cell?_alloc_lt _ _ ⟨tb,0,none⟩ (by simp;omega),World.cell?_alloc_lt _ _ ⟨tb,0,none⟩ htl];exact hc0)
  (by rw[World.frozen?_alloc_old _ _ ⟨tb,0,none⟩ (by simp;omega),World.frozen?_alloc_old _ _ ⟨tb,0,none⟩ (by simp;omega),World.frozen?_alloc_old _ _ ⟨tb,0,none⟩ (by simp;omega),World.frozen?_alloc_old _ _ ⟨tb,0,none⟩ (by simp;omega),World.frozen?_alloc_old _ _ ⟨tb,0,none⟩ (Nat.ne_of_lt htl)];exact hf0)
 go_enter Tryz.func167,Tryz.ntmps167
 go_wp2
 refine wp_loop_rounds 2 ?_
 rw[rounds_succ]
 go_wp2_with (go_at_call 219;refine(gKd _ _ _).mono ?_;rintro e w' ⟨rfl,rfl⟩)
 rw[rounds_succ]
 go_wp2
 go_ret
 exact⟨rfl,rfl⟩
end Go.Proofs.YtjkebndkeamijaaGreatDoor
/- Told: expr.told at a refusal: the place and the number; nothing that lay before is turned. -/
namespace Go.Proofs.YtjkebndkeamijaaGreatDoor
open Go.RowKit
theorem ETy.below {w w' : World}(h:ETy w)(hB:Below w.heap.size w w'):ETy w' := (hB.cell (p:=⟨1,0,none⟩) h.lt).trans h
theorem gQv (i:Nat)(n:Int)(w:World)(hg:ETy w) :
  Calls Tryz.prog 155 #[uL i n] w fun e w' => e=.returned (.tuple #[.int .i64 (i:Int),.int .i64 n])/\Below w.heap.size w w' := by
 obtain⟨w0,hw0⟩:∃w0,w0=(w.alloc (.cells #[.int .i64 0,.nilIface] 219)).alloc (.cells #[.int .i64 0] 28):=⟨_,rfl⟩
 have hB0:Below w.heap.size w w0:=by rw[hw0];exact((zzd _ w).alloc (zzb _) _).alloc (by simp) _
 have hs0:w0.heap.size=w.heap.size+1+1:=by rw[hw0];simp
 have hb1:w0.heap[w.heap.size]? = some (.cells #[.int .i64 0,.nilIface] 219 (0,0)):=by rw[hw0,zzf _ _ _ (by simp)];exact gCm w _
 have hb2:w0.heap[w.heap.size+1]? = some (.cells #[.int .i64 0] 28 (0,0)):=by
  rw[hw0]
  have:=gCm (w.alloc (.cells #[.int .i64 0,.nilIface] 219)) (.cells #[.int .i64 0] 28)
  simpa using this
 have H1:=hDg (i:Int) n w.heap.size _ w0 (hg.below hB0) hb1 rfl
 obtain⟨w1,hw1⟩:∃w1,w1=((((w0.alloc (.cells #[.pointer (some ⟨w.heap.size,0,none⟩)] 224)).alloc (.cells (yT 224 w0.heap.size) 231)).alloc (.cells (yT 224 w0.heap.size) 231)).alloc (.cells #[.int .i64 (i:Int),.iface 28 (.int .i64 n)] 219)).setRow w.heap.size #[.int .i64 (i:Int),.iface 28 (.int .i64 n)]:=⟨_,rfl⟩
 rw[<-hw1] at H1
 have hA1:Below w0.heap.size w0 ((((w0.alloc (.cells #[.pointer (some ⟨w.heap.size,0,none⟩)] 224)).alloc (.cells (yT 224 w0.heap.size) 231)).alloc (.cells (yT 224 w0.heap.size) 231)).alloc (.cells #[.int .i64 (i:Int),.iface 28 (.int .i64 n)] 219)) :=
  ((((zzd _ w0).alloc (zzb _) _).alloc (by simp) _).alloc (by simp;omega) _).alloc (by simp;omega) _
 have hB1:Below w.heap.size w w1:=by rw[hw1];exact below_setRow (hB0.trans (hA1.mono oo)) (zzb _) _
 have hr1:w1.heap[w.heap.size]? = some (.cells #[.int .i64 (i:Int),.iface 28 (.int .i64 n)] 219 (0,0)):=by
  rw[hw1];exact setRow_heap _ _ _ _ _ _ ((hA1.block _ oo).trans hb1)
 have hr2:w1.heap[w.heap.size+1]? = some (.cells #[.int .i64 0] 28 (0,0)):=by
  rw[hw1,setRow_other _ _ _ _ oo];exact(hA1.block _ oo).trans hb2
 have hs1:w.heap.size+2<=w1.heap.size:=by rw[hw1];simp;omega
 have H2:=gYx (i:Int) n (w.heap.size+1) _ w1 (hg.below hB1) hr2
 obtain⟨w2,hw2⟩:∃w2,w2=(((((w1.alloc (.cells #[.pointer (some ⟨w.heap.size+1,0,none⟩)] 225)).alloc (.cells (yT 225 w1.heap.size) 231)).alloc (.cells (yT 225 w1.heap.size) 231)).alloc (.cells #[.int .i64 (i:Int),.iface 28 (.int .i64 n)] 219)).alloc (.cells #[.int .i64 n] 28)).setCell ⟨w.heap.size+1,0,none⟩ (.int .i64 n):=⟨_,rfl⟩
 rw[<-hw2] at H2
 have hA2:Below w1.heap.size w1 (((((w1.alloc (.cells #[.pointer (some ⟨w.heap.size+1,0,none⟩)] 225)).alloc (.cells (yT 225 w1.heap.size) 231)).alloc (.cells (yT 225 w1.heap.size) 231)).alloc (.cells #[.int .i64 (i:Int),.iface 28 (.int .i64 n)] 219)).alloc (.cells #[.int .i64 n] 28)) :=
  (((((zzd _ w1).alloc (zzb _) _).alloc (by simp) _).alloc (by simp;omega) _).alloc (by simp;omega) _).alloc (by simp;omega) _
 have hB2:Below w.heap.size w w2:=by
  rw[hw2];exact(hB1.trans (hA2.mono oo)).setCell (by simp) _
 have c1:w2.cell? ⟨w.heap.size,0,none⟩=some (.int .i64 (i:Int)):=by
  have h:w2.heap[w.heap.size]? = w1.heap[w.heap.size]?:=by
   rw[hw2,zzh _ _ _ _ (by simp)];exact hA2.block _ oo
  exact cell_of_row w2 _ 0 _ _ _ (h.trans hr1)
 have c2:w2.cell? ⟨w.heap.size+1,0,none⟩=some (.int .i64 n):=by
  have h:=heap_setCell_same (((((w1.alloc (.cells #[.pointer (some ⟨w.heap.size+1,0,none⟩)] 225)).alloc (.cells (yT 225 w1.heap.size) 231)).alloc (.cells (yT 225 w1.heap.size) 231)).alloc (.cells #[.int .i64 (i:Int),.iface 28 (.int .i64 n)] 219)).alloc (.cells #[.int .i64 n] 28)) (w.heap.size+1) 0 _ _ (.int .i64 n) ((hA2.block _ oo).trans hr2);rw[<-hw2] at h;exact cell_of_row w2 _ 0 _ _ _ h
 clear hw2 hA2 hr2 hA1 hb2 hb1 hB0
 have HB:Hid (Below w.heap.size w w2):=hB2
 have h1:Hid (Calls Tryz.prog 167 #[uL i n,.iface 224 (.pointer (some ⟨w.heap.size,0,none⟩))] w0 fun ev w' => ev=.returned (.bool true)/\w' = w1):=H1
 have h2:Hid (Calls Tryz.prog 167 #[uL i n,.iface 225 (.pointer (some ⟨w.heap.size+1,0,none⟩))] w1 fun ev w' => ev=.returned (.bool true)/\w' = w2):=H2
 clear H1 H2 hB2 hB1 hr1 hw1 hg hs1
 obtain⟨V,hV⟩:∃V,uL i n=V:=⟨_,rfl⟩
 rw[hV] at h1 h2 ⊢
 clear hV
 go_enter Tryz.func155,Tryz.ntmps155
 go_wp2_with fail
 rw[<-hw0]
 refine h1.out.mono ?_
 rintro e W ⟨rfl,hW⟩
 subst hW
 go_wp2_with fail
 refine h2.out.mono ?_
 rintro e W ⟨rfl,hW⟩
 subst hW
 go_wp2_with fail
 go_quiet (fail)
 go_wp2
 go_ret2
 exact⟨rfl,⟨HB.out.os,HB.out.tape,HB.out.output,HB.out.size,HB.out.block⟩⟩
end Go.Proofs.YtjkebndkeamijaaGreatDoor
/- Parse: expr.Parse at every text: the tree, the place, the error; nothing that lay before is turned. -/
namespace Go.Proofs.YtjkebndkeamijaaGreatDoor
open Go.RowKit
def kE:DataW Unit:=node 0 ⟨#[]⟩ []
def rX (s:ByteArray):Option (DataW Unit) :=
 if 200<s.size then none
 else match nQ (bts s) with
  | none=>none
  | some t=>if kU 200 t=0 then some t else none
def nZ (s:ByteArray):Int :=
 if 200<s.size then 2
 else match nQ (bts s) with
  | none=>4
  | some t=>if kU 200 t=0 then 0 else 4
def qB (s:ByteArray):Nat :=
 if 200<s.size then 0
 else match nQ (bts s) with
  | none=>s.size - (gZ (s.size+1) (bts s)).2.length
  | some t=>if kU 200 t=0 then s.size else 0
theorem gOe {s:ByteArray}(h:200<s.size):rX s=none/\nZ s=2/\qB s=0:=by
 unfold rX nZ qB
 rw[if_pos h,if_pos h,if_pos h]
 exact⟨rfl,rfl,rfl⟩
theorem gOd {s:ByteArray}(h:¬200<s.size)(hr:nQ (bts s)=none):rX s=none/\nZ s=4/\qB s=s.size - (gZ (s.size+1) (bts s)).2.length:=by
 unfold rX nZ qB
 rw[if_neg h,if_neg h,if_neg h,hr]
 exact⟨rfl,rfl,rfl⟩
theorem gUi {s:ByteArray}{t:DataW Unit}(h:¬200<s.size)(hr:nQ (bts s)=some t)(hc:¬kU 200 t=0):rX s=none/\nZ s=4/\qB s=0:=by
 unfold rX nZ qB
 rw[if_neg h,if_neg h,if_neg h,hr]
 simp only[if_neg hc]
 exact⟨trivial,trivial,trivial⟩
theorem gGf {s:ByteArray}{t:DataW Unit}(h:¬200<s.size)(hr:nQ (bts s)=some t)(hc:kU 200 t=0):rX s=some t/\nZ s=0/\qB s=s.size:=by
 unfold rX nZ qB
 rw[if_neg h,if_neg h,if_neg h,hr]
 simp only[if_pos hc]
 exact⟨trivial,trivial,trivial⟩
theorem gMa (n:Nat):jN (n+1) kE=true:=by
 unfold kE
 rw[jN,iC,iN,kT]
 simp[nN,ByteArray.toList_eq]
theorem gMb:kU 200 kE=0:=by
 have h1:cnt 200 kE=1:=rfl
 have h2:dp 200 kE=1:=rfl
 unfold kU
 rw[h1,h2,if_neg (by decide),if_pos (gMa 199)]
theorem vN:oG 200 kE:=uY.node (by decide) (fun x hx=>by cases hx) 200
theorem Below.of_kept {lo g:Nat}{w W W' : World}(h:Below lo w W)(hK:gX g W W')(hg:lo<=g)(hl:lo<=W.heap.size):Below lo w W' :=
 ⟨hK.os.trans h.os,hK.tape.trans h.tape,hK.output.trans h.output,Nat.le_trans h.size hK.size,fun k hk=>(hK.block k oo oo).trans (h.block k hk)⟩
theorem gOv {s:ByteArray}{j:Nat}(hj:j<=s.size){l:List UInt8}(h:l=left s j):s.size - l.length=j:=by
 rw[h,iL]
 omega
theorem ExA.down {A:Nat->Prop}{w:World}:∀(n:Nat) (t:DataW Unit) (v:Value) (m:Nat),ExA A w n t v->dp n t<=m->ExA A w m t v:=by
 intro n
 induction n with
 | zero=>intro t v m h;exact h.elim
 | succ n ih=>
  rintro t v m ⟨k,s,a,len,cap,ts,rfl,rfl,h3,h4,h5⟩ hd;rw[dp,iC] at hd;have hg:=nR (dp n) ts;cases m with
  | zero=>omega
  | succ m=>
   refine⟨k,s,a,len,cap,ts,rfl,rfl,h3,h4,?_⟩;rcases h5 with h5 | ⟨b,o,h5,h6,h7,hc⟩
   ·exact .inl h5
   ·refine .inr ⟨b,o,h5,h6,h7,fun i x hx=>?_⟩
    obtain⟨k', s', a', len', cap', c0,c1,c2,c3⟩:=hc i x hx
    have:=gDo (f:=dp n) ts x (zzj hx)
    exact⟨k', s', a', len', cap', c0,c1,c2,ih _ _ m c3 oo⟩
theorem Whl.cases {g:Nat}{s:ByteArray}{lo:Nat}{e:Ending}{w' : World}(h:Whl g s lo e w')(hs:¬200<s.size) :
  (∃k nm a ln cp t,nQ (bts s)=some t/\ExA (fun b=>lo<=b) w' 200 t (.agg #[.int .i64 k,.string nm,.slice a ln cp])/\oG 200 t/\e=.returned (.tuple #[.agg #[.int .i64 k,.string nm,.slice a ln cp],.nilIface])) ∨
  (∃k nm a ln cp j,nQ (bts s)=none/\(gZ (s.size+1) (bts s)).2=left s j/\j<=s.size/\e=.returned (.tuple #[.agg #[.int .i64 k,.string nm,.slice a ln cp],uL j 4])):=by
 rcases h with ⟨h1,rfl⟩ | ⟨r,t,m,h1,h2,h3,h4,rfl⟩ | ⟨r,j,h1,h2,h3,h4,rfl⟩
 ·exact .inl ⟨0,⟨#[]⟩,none,0,0,kE,by unfold nQ;rw[if_pos h1];rfl,ExA.leaf _ w' 199 0 ⟨#[]⟩ none 0,vN,rfl⟩
 ·obtain⟨k,nm,a,ln,cp⟩:=r
  have hl:=oP s;have hb:=tI (s.size+1) (bts s) t [] h2 m;rw[hl] at hb;exact .inl ⟨k,nm,a,ln,cp,t,gUh h1 (n:=s.size+1) oo h2,(ExA.down m t _ 200 h3 (by simp at hb;omega)).mono fun b _ h=>h.1,(gAe _ _ _ _ h2 oo).1 200,rfl⟩
 ·obtain⟨k,nm,a,ln,cp⟩:=r
  exact .inr ⟨k,nm,a,ln,cp,j,h3,h2,h4,rfl⟩
def Rdd (lo:Nat)(s:ByteArray)(e:Ending)(w' : World):Prop :=
 (∃t r,rX s=some t/\nZ s=0/\qB s=s.size/\ExA (fun b=>lo<=b) w' 200 t (jI r)/\e=.returned (.tuple #[jI r,.nilIface])) ∨
 (rX s=none/\nZ s≠0/\e=.returned (.tuple #[zE,uL (qB s) (nZ s)]))
theorem gRv (s:ByteArray)(hs:s.size<=9223372036854775807)(w:World) :
  Calls Tryz.prog 154 #[.string s] w fun e w' => Below w.heap.size w w' /\ Rdd w.heap.size s e w' := by
 by_cases hbig:200<s.size
 ·obtain⟨o1,o2,o3⟩:=gOe hbig
  have HO:Hid (rX s=none/\nZ s=2/\qB s=0):=⟨o1,o2,o3⟩;(have HB:Hid (∀cs,Below w.heap.size w ((w.alloc (.cells #[.int .i64 0,.string ⟨#[]⟩,.slice none 0 0] 69)).setRow w.heap.size cs)):=fun cs=>below_setRow ((zzd _ w).alloc (zzb _) _) (zzb _) cs);(have hb:(200:Int)<(s.size:Int):=by omega);clear o1 o2 o3;go_enter Tryz.func154,Tryz.ntmps154;(go_wp2_with (refine wpList_store_row rfl 69 _ _ rfl w.heap.size #[.int .i64 0,.string ⟨#[]⟩,.slice none 0 0] rfl rfl 69 _ (heap_alloc_new w _) gE rfl (jF _ _ _ _ _) ?_));refine bodyPost_ret (gU rfl _ _ w.heap.size 69 #[.int .i64 0,.string ⟨#[]⟩,.slice none 0 0] (0,0) _ rfl (setRow_heap _ _ _ _ _ _ (heap_alloc_new w _)) Tryz.underlying69 rfl gE) rfl ?_;refine⟨HB.out _,.inr ⟨HO.out.1,by rw[HO.out.2.1];decide,?_⟩⟩;rw[HO.out.2.1,HO.out.2.2]
  rfl
 ·have hb:¬(200:Int)<(s.size:Int):=by omega
  obtain⟨w1,hw1⟩:∃w1,w1=(w.alloc (.cells #[.int .i64 0,.string ⟨#[]⟩,.slice none 0 0] 69)).alloc (.cells #[.string s,.int .i64 0] 221):=⟨_,rfl⟩;(have hB1:Below w.heap.size w w1:=by rw[hw1];exact((zzd _ w).alloc (zzb _) _).alloc (by simp) _);have hs1:w1.heap.size=w.heap.size+1+1:=by rw[hw1];simp
  have hR1:RAt w1 (w.heap.size+1) s 0:=by
   unfold RAt
   have:=heap_alloc_new (w.alloc (.cells #[.int .i64 0,.string ⟨#[]⟩,.slice none 0 0] 69)) (.cells #[.string s,.int .i64 0] 221)
   rw[World.size_alloc] at this;rw[hw1];exact this
  (have hz1:w1.heap[w.heap.size]? = some (.cells #[.int .i64 0,.string ⟨#[]⟩,.slice none 0 0] 69 (0,0)):=by rw[hw1,zzf _ _ _ (by simp)];exact heap_alloc_new w _);have HWh:=gMp (w.heap.size+1) s oo w1 hR1;have HH:Hid (Calls Tryz.prog 166 #[.pointer (some ⟨w.heap.size+1,0,none⟩)] w1 fun e w' => gX (w.heap.size+1) w1 w' /\ Whl (w.heap.size+1) s w1.heap.size e w'):=HWh;have HW:Hid (Below w.heap.size w w1/\w1.heap.size=w.heap.size+1+1/\w1.heap[w.heap.size]? = some (.cells #[.int .i64 0,.string ⟨#[]⟩,.slice none 0 0] 69 (0,0))/\¬200<s.size):=⟨hB1,hs1,hz1,hbig⟩;clear HWh hB1 hs1 hz1 hR1 hbig;go_enter Tryz.func154,Tryz.ntmps154;(go_wp2_with fail);rw[<-hw1];clear hw1;refine HH.out.mono ?_;rintro e2 W2 ⟨hK2,hE⟩;obtain⟨hB1,hs1,hz1,hbig⟩:=HW.out;have hs2:=hK2.size;have hz2:W2.heap[w.heap.size]? = some (.cells #[.int .i64 0,.string ⟨#[]⟩,.slice none 0 0] 69 (0,0)):=(hK2.block _ oo oo).trans hz1;have hB2:Below w.heap.size w W2:=Below.of_kept hB1 hK2 oo oo;(have hsz2:w.heap.size<W2.heap.size:=by omega);(have hw1s:w.heap.size<w1.heap.size:=by omega);clear HH HW hK2 hz1 hs1 hs2 hB1;(have HZ:Hid (∀o,(W2.alloc o).heap[w.heap.size]? = some (.cells #[.int .i64 0,.string ⟨#[]⟩,.slice none 0 0] 69 (0,0))):=fun o=>(zzf W2 o _ hsz2).trans hz2);rcases hE.cases hbig with ⟨k,nm,a,ln,cp,t,hrd,hex,hnm,rfl⟩ | ⟨k,nm,a,ln,cp,j,hrd,hpl,hjs,rfl⟩
  ·have HCk:Hid (∀W,Below W2.heap.size W2 W->Calls Tryz.prog 143 #[.agg #[.int .i64 k,.string nm,.slice a ln cp]] W fun e w' => e=.returned (.int .i64 (kU 200 t))/\Below W.heap.size W w'):=fun W hW=>gDy 200 t _ W (Ex.below hW _ _ _ (ExA.ex _ _ _ hex)) hnm
   (have HA:Hid (∀o,Below W2.heap.size W2 (W2.alloc o)):=fun o=>(zzd _ W2).alloc (zzb _) _);have HE:Hid (ExA (fun b=>w1.heap.size<=b) W2 200 t (.agg #[.int .i64 k,.string nm,.slice a ln cp])):=hex;have HW2:Hid (Below w.heap.size w W2/\w.heap.size<W2.heap.size/\w.heap.size<w1.heap.size):=⟨hB2,hsz2,hw1s⟩;(have hev:∀W,Below (W2.alloc (.cells #[.int .i64 k,.string nm,.slice a ln cp] 69)).heap.size (W2.alloc (.cells #[.int .i64 k,.string nm,.slice a ln cp] 69)) W->W.heap[W2.heap.size]? = some (.cells #[.int .i64 k,.string nm,.slice a ln cp] 69 (0,0)):=fun W hW=>(hW.block _ (by simp)).trans (heap_alloc_new W2 _));have HEV:Hid (∀W,Below (W2.alloc (.cells #[.int .i64 k,.string nm,.slice a ln cp] 69)).heap.size (W2.alloc (.cells #[.int .i64 k,.string nm,.slice a ln cp] 69)) W->W.heap[W2.heap.size]? = some (.cells #[.int .i64 k,.string nm,.slice a ln cp] 69 (0,0))):=hev
   by_cases hck:kU 200 t=0
   ·obtain⟨o1,o2,o3⟩:=gGf hbig hrd hck
    have HO:Hid (rX s=some t/\nZ s=0/\qB s=s.size):=⟨o1,o2,o3⟩;rw[hck] at HCk;clear o1 o2 o3 hex hnm hrd hE hz2 hB2 hsz2 hev hck;(go_wp2_with fail);refine(HCk.out _ (HA.out _)).mono ?_;rintro e3 W3 ⟨rfl,hB3⟩;have he3:=HEV.out W3 hB3;have c0:W3.cell? ⟨W2.heap.size,0,none⟩=some (.int .i64 k):=cell_of_row W3 _ 0 _ _ _ he3;have c1:W3.cell? ⟨W2.heap.size,1,none⟩=some (.string nm):=cell_of_row W3 _ 1 _ _ _ he3;have c2:W3.cell? ⟨W2.heap.size,2,none⟩=some (.slice a ln cp):=cell_of_row W3 _ 2 _ _ _ he3;obtain⟨hB2,hlt,hw1s⟩:=HW2.out;have hB23:Below W2.heap.size W2 W3:=(HA.out _).trans (hB3.mono (by simp));have HZ3:Hid (W3.heap[w.heap.size]? = some (.cells #[.int .i64 0,.string ⟨#[]⟩,.slice none 0 0] 69 (0,0))):=(hB3.block _ (by simp;omega)).trans (HZ.out _);(have HF:Hid (∀cs,Below w.heap.size w (W3.setRow w.heap.size cs)):=fun cs=>below_setRow (hB2.trans (hB23.mono oo)) (zzb _) cs);(have HX:Hid (∀cs,ExA (fun b=>w.heap.size<=b) (W3.setRow w.heap.size cs) 200 t (.agg #[.int .i64 k,.string nm,.slice a ln cp])):=fun cs=>ExA.kept (by rw[size_setRow];exact hB23.size) (fun b hb hA=>⟨oo,(setRow_other _ _ _ _ oo).trans (hB23.block b hb)⟩) _ _ _ HE.out);clear hB2 hlt hw1s hB23 hB3 he3 HZ HW2 HE HEV HCk HA;(go_wp2_with (refine wpList_store_row rfl 69 _ _ rfl w.heap.size #[.int .i64 k,.string nm,.slice a ln cp] rfl rfl 69 _ HZ3.out gE rfl (jF _ _ _ _ _) ?_));refine bodyPost_ret (gU rfl _ _ w.heap.size 69 #[.int .i64 k,.string nm,.slice a ln cp] (0,0) _ rfl (setRow_heap _ _ _ _ _ _ HZ3.out) Tryz.underlying69 rfl gE) rfl ?_;exact⟨HF.out _,.inl ⟨t,(k,nm,a,ln,cp),HO.out.1,HO.out.2.1,HO.out.2.2,HX.out _,rfl⟩⟩
   ·obtain⟨o1,o2,o3⟩:=gUi hbig hrd hck
    have HO:Hid (rX s=none/\nZ s=4/\qB s=0):=⟨o1,o2,o3⟩;generalize kU 200 t=C at *;(have e1:(C==0)=false:=by rw[beq_eq_false_iff_ne];exact hck);(have e2:(C != 0)=true:=by rw[bne_iff_ne];exact hck);clear o1 o2 o3 hex hnm hrd hE hz2 hB2 hsz2 hev hck HE;(go_wp2_with fail);refine(HCk.out _ (HA.out _)).mono ?_;rintro e3 W3 ⟨rfl,hB3⟩;obtain⟨hB2,hlt,hw1s⟩:=HW2.out;have hB23:Below W2.heap.size W2 W3:=(HA.out _).trans (hB3.mono (by simp));have HZ3:Hid (W3.heap[w.heap.size]? = some (.cells #[.int .i64 0,.string ⟨#[]⟩,.slice none 0 0] 69 (0,0))):=(hB3.block _ (by simp;omega)).trans (HZ.out _);(have HF:Hid (∀cs,Below w.heap.size w (W3.setRow w.heap.size cs)):=fun cs=>below_setRow (hB2.trans (hB23.mono oo)) (zzb _) cs);clear hB2 hlt hw1s hB23 hB3 HZ HW2 HEV HCk HA;(go_wp2_with (refine wpList_store_row rfl 69 _ _ rfl w.heap.size #[.int .i64 0,.string ⟨#[]⟩,.slice none 0 0] rfl rfl 69 _ HZ3.out gE rfl (jF _ _ _ _ _) ?_));refine bodyPost_ret (gU rfl _ _ w.heap.size 69 #[.int .i64 0,.string ⟨#[]⟩,.slice none 0 0] (0,0) _ rfl (setRow_heap _ _ _ _ _ _ HZ3.out) Tryz.underlying69 rfl gE) rfl ?_;refine⟨HF.out _,.inr ⟨HO.out.1,by rw[HO.out.2.1];decide,?_⟩⟩;rw[HO.out.2.1,HO.out.2.2]
    rfl
  ·obtain⟨o1,o2,o3⟩:=gOd hbig hrd
   rw[gOv hjs hpl] at o3;have HO:Hid (rX s=none/\nZ s=4/\qB s=j):=⟨o1,o2,o3⟩;(have HF:Hid (∀o cs,Below w.heap.size w ((W2.alloc o).setRow w.heap.size cs)):=fun o cs=>below_setRow (hB2.alloc oo o) (zzb _) cs);clear o1 o2 o3 hE hz2 hB2 hsz2 hrd hpl hjs hbig;unfold uL;(go_wp2_with (refine wpList_store_row rfl 69 _ _ rfl w.heap.size #[.int .i64 0,.string ⟨#[]⟩,.slice none 0 0] rfl rfl 69 _ (HZ.out _) gE rfl (jF _ _ _ _ _) ?_));refine bodyPost_ret (gU rfl _ _ w.heap.size 69 #[.int .i64 0,.string ⟨#[]⟩,.slice none 0 0] (0,0) _ rfl (setRow_heap _ _ _ _ _ _ (HZ.out _)) Tryz.underlying69 rfl gE) rfl ?_;refine⟨HF.out _ _,.inr ⟨HO.out.1,by rw[HO.out.2.1];decide,?_⟩⟩;rw[HO.out.2.1,HO.out.2.2]
   rfl
def gO (s:ByteArray):DataW Unit:=(rX s).getD kE
end Go.Proofs.YtjkebndkeamijaaGreatDoor
